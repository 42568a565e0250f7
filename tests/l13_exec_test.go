package tests

import (
	"math"
	"slices"
	"testing"

	"loop.example/g00954/impl"
)

// plainExec is the second reading of the chapter, over that of chapter 12.
type plainExec struct {
	order   []impl.Id
	cmds    []impl.Cmd
	waiting []impl.Id
}

func plainExecOf(l []impl.Inst) plainExec {
	g := plainGraphOf(l)
	parts, _ := g.parts()
	p := plainExec{order: slices.Concat(parts...)}
	for _, id := range p.order {
		if c := wantInstAt(l, id).Cmd; c.Kind != 0 {
			p.cmds = append(p.cmds, c)
		}
	}
	p.waiting = wantOfAll(func(id impl.Id) bool { return g.committed[idNumber(id)] && !g.ready(id) })
	return p
}

func (p plainExec) before(a impl.Id, b impl.Id) bool {
	for i, first := range p.order {
		if first == a {
			return slices.Contains(p.order[i+1:], b)
		}
	}
	return false
}

func equalCmdLists(a []impl.Cmd, b []impl.Cmd) bool {
	return slices.EqualFunc(a, b, equalCmds)
}

// checkLists holds ExecCmds and Waiting against the second reading, and against
// the promise; they leave their argument alone.
func checkLists(t *testing.T, what string, l []impl.Inst) plainExec {
	t.Helper()
	before, want := freshInsts(l), plainExecOf(l)
	if got := impl.ExecCmds(l); !equalCmdLists(got, want.cmds) {
		t.Fatalf("%s: ExecCmds(%+v) = %+v, want %+v", what, l, got, want.cmds)
	}
	if got := impl.Waiting(l); !slices.Equal(got, want.waiting) {
		t.Fatalf("%s: Waiting(%+v) = %v, want %v", what, l, got, want.waiting)
	}
	executesOnce(t, what, l)
	if !equalInstLists(l, before) {
		t.Fatalf("%s: the list has become\n%+v, it was\n%+v", what, l, before)
	}
	return want
}

// checkExec holds Before against it, too, for all pairs of Ids of the list and of
// some that need not be there.
func checkExec(t *testing.T, what string, l []impl.Inst) plainExec {
	t.Helper()
	want := checkLists(t, what, l)
	asked := []impl.Id{{}, idOf(0, 7), idOf(2, 6)}
	for _, x := range l {
		asked = append(asked, x.Id)
	}
	for _, a := range asked {
		for _, b := range asked {
			if got := impl.Before(l, a, b); got != want.before(a, b) {
				t.Fatalf("%s: Before(%+v, %v, %v) = %v", what, l, a, b, got)
			}
		}
	}
	return want
}

// timesIn tells how often a list has this element.
func timesIn[T any](l []T, x T, equal func(T, T) bool) int {
	times := 0
	for _, y := range l {
		if equal(x, y) {
			times++
		}
	}
	return times
}

// executesOnce asks only the program: each Id that is EsCom is either in the
// order or among those that wait, once, no other Id is in either, and each command
// is executed as often as there are instances with it that are Ready.
func executesOnce(t *testing.T, what string, l []impl.Inst) {
	t.Helper()
	if !impl.InstsOk(l) {
		return
	}
	cmds, order, waiting := impl.ExecCmds(l), impl.ExecOrder(l), impl.Waiting(l)
	sameId := func(a, b impl.Id) bool { return a == b }
	committed, effects := 0, 0
	for _, x := range l {
		ordered, late := timesIn(order, x.Id, sameId), timesIn(waiting, x.Id, sameId)
		ready := impl.Ready(l, x.Id)
		if x.Status == 3 && ordered+late != 1 || x.Status != 3 && ordered+late != 0 || (ordered == 1) != ready {
			t.Fatalf("%s: %v is %d times in %v and %d times in %v; Ready: %v", what, x.Id, ordered, order, late, waiting, ready)
		}
		if x.Status == 3 {
			committed++
		}
		if !ready || x.Cmd.Kind == 0 {
			continue
		}
		effects++
		equals := func(y impl.Inst) bool { return equalCmds(x.Cmd, y.Cmd) && impl.Ready(l, y.Id) }
		instances := len(slices.DeleteFunc(slices.Clone(l), func(y impl.Inst) bool { return !equals(y) }))
		if times := timesIn(cmds, x.Cmd, equalCmds); times != instances {
			t.Fatalf("%s: %+v is executed %d times, %d instances with it are Ready", what, x.Cmd, times, instances)
		}
	}
	if len(order)+len(waiting) != committed || len(cmds) != effects {
		t.Fatalf("%s: %v, %v or %+v has more than %+v", what, order, waiting, cmds, l)
	}
}

// distinct gives each instance a command of its own, of all kinds but CmNoop.
func distinct(l []impl.Inst) []impl.Inst {
	out, cmds := freshInsts(l), validCmds()[1:]
	for i := range out {
		if out[i].Status == impl.EsNone {
			continue
		}
		n := idNumber(out[i].Id)
		out[i].Cmd = freshCmd(cmds[n%len(cmds)])
		out[i].Cmd.Client, out[i].Cmd.No = 1+n%9, 1+n
	}
	return out
}

// silent gives the instances with these numbers a CmNoop.
func silent(l []impl.Inst, numbers ...int) []impl.Inst {
	for _, n := range numbers {
		l = with(l, n, func(x *impl.Inst) { x.Cmd = impl.Cmd{} })
	}
	return l
}

// hasExec tells which instances are executed, in this order, and which wait.
func hasExec(t *testing.T, what string, l []impl.Inst, executed []int, waiting []int) {
	t.Helper()
	checkLists(t, what, l)
	var want []impl.Cmd
	for _, id := range ids(executed...) {
		if c := wantInstAt(l, id).Cmd; c.Kind != 0 {
			want = append(want, c)
		}
	}
	if got := impl.ExecCmds(l); !equalCmdLists(got, want) {
		t.Errorf("%s: ExecCmds are %+v, want %+v", what, got, want)
	}
	for a := range 18 {
		for b := range 18 {
			first, second := slices.Index(executed, a), slices.Index(executed, b)
			if got := impl.Before(l, ids(a)[0], ids(b)[0]); got != (first >= 0 && second > first) {
				t.Errorf("%s: %v Before %v: %v, the order is %v", what, ids(a), ids(b), got, ids(executed...))
			}
		}
	}
	if got := impl.Waiting(l); !slices.Equal(got, ids(waiting...)) {
		t.Errorf("%s: Waiting is %v, want %v", what, got, ids(waiting...))
	}
}

// isBefore tells of two Ids, in both directions, whether the first one precedes.
func isBefore(t *testing.T, what string, l []impl.Inst, a impl.Id, b impl.Id, want bool, back bool) {
	t.Helper()
	if got, other := impl.Before(l, a, b), impl.Before(l, b, a); got != want || other != back {
		t.Errorf("%s: Before of %v and %v is %v, and %v the other way round", what, a, b, got, other)
	}
}

// noExec tells that the functions return nil and false, for whatever Ids.
func noExec(t *testing.T, what string, l []impl.Inst) {
	t.Helper()
	if cmds, waiting := impl.ExecCmds(l), impl.Waiting(l); len(cmds) != 0 || len(waiting) != 0 {
		t.Errorf("%s: %+v, %v", what, cmds, waiting)
	}
	asked := append(allIds(), otherIds()...)
	for _, a := range asked {
		for _, b := range asked {
			if impl.Before(l, a, b) {
				t.Errorf("%s: %v is Before %v", what, a, b)
			}
		}
	}
}

func TestExecOfNoInstance(t *testing.T) {
	for _, l := range [][]impl.Inst{nil, {}, make([]impl.Inst, 0, 5)} {
		noExec(t, "no instance", l)
		hasExec(t, "no instance", l, nil, nil)
	}
}

func TestExecOfAnInvalidList(t *testing.T) {
	for _, l := range invalidInstLists() {
		noExec(t, "invalid", l)
		noExec(t, "invalid, and more", append(linked([]int{0}, []int{1, 0}, []int{2, 17}), l...))
	}
	// Some are Ready and some wait as long as the list is valid; the one that is spoilt is far from most.
	valid := distinct(linked([]int{1}, []int{3, 4}, []int{4, 3}, []int{7, 4}, []int{12}, []int{16, 11}, []int{17, 16}))
	hasExec(t, "valid", valid, []int{1, 3, 4, 7, 12}, []int{16, 17})
	spoiltLists(valid, func(what string, l []impl.Inst) { noExec(t, what, l) })
}

func TestExecOfAnInvalidStatus(t *testing.T) {
	valid := linked([]int{2}, []int{9, 2}, []int{12, 13})
	for _, status := range []int{math.MinInt, -1, 4, math.MaxInt, 1<<32 + 3} {
		for _, number := range []int{2, 9, 12} {
			noExec(t, "Status", with(valid, number, func(x *impl.Inst) { x.Status = status }))
		}
	}
	unset := append([]impl.Inst{unsetInst(idOf(0, 1), 3)}, valid...)
	hasExec(t, "beside EsNone", unset, []int{2, 9}, []int{12})
	unset[0].Seq = 1
	noExec(t, "EsNone with a Seq", unset)
	unset[0].Seq, unset[0].Cmd = 0, readOf("a")
	noExec(t, "EsNone with a command", unset)
}

func TestExecOfALongList(t *testing.T) {
	noExec(t, "many instances", slices.Repeat(linked([]int{0}, []int{1, 0}), 100000))
	deps := linked([]int{0}, []int{1, 0}, []int{6, 17})
	deps[1].Deps = slices.Repeat(ids(0, 2), 100000)
	noExec(t, "many Deps", deps)
}

func TestExecOfOneInstance(t *testing.T) {
	eachAlone(func(number int, x impl.Inst) {
		var executed, waiting []int
		if x.Status == impl.EsCom && len(x.Deps) == 0 {
			executed = []int{number}
		} else if x.Status == impl.EsCom {
			waiting = []int{number}
		}
		hasExec(t, "one", []impl.Inst{x}, executed, waiting)
	})
}

func TestExecWaitsForAMissingOne(t *testing.T) {
	for _, pair := range [][]int{{0, 1}, {1, 0}, {0, 17}, {17, 0}, {5, 6}, {6, 5}, {8, 14}} {
		a, b := pair[0], pair[1]
		l := distinct(linked([]int{a, b}, []int{b}))
		hasExec(t, "it is there", l, []int{b, a}, nil)
		for what, other := range notCommitted(l, b) {
			hasExec(t, what, other, nil, []int{a})
		}
	}
	// One of several is enough, whichever it is.
	several := distinct(linked([]int{2}, []int{4}, []int{9, 2, 4, 13, 17}, []int{13}, []int{17}))
	hasExec(t, "all are there", several, []int{2, 4, 13, 17, 9}, nil)
	for _, number := range []int{2, 4, 13, 17} {
		others := slices.DeleteFunc([]int{2, 4, 13, 17}, func(n int) bool { return n == number })
		for what, other := range notCommitted(several, number) {
			hasExec(t, what, other, others, []int{9})
		}
	}
	for what, other := range notCommitted(several, 9) {
		hasExec(t, what+" depends on others", other, []int{2, 4, 13, 17}, nil)
	}
}

func TestExecWaitsOverAChain(t *testing.T) {
	for _, step := range []int{7, 17} {
		numbers := rotated(step)
		l := distinct(chain(numbers))
		back := slices.Clone(numbers)
		slices.Reverse(back)
		hasExec(t, "chain", l, back, nil)
		for at, number := range numbers {
			for what, other := range notCommitted(l, number) {
				hasExec(t, what, other, back[:17-at], sorted(numbers[:at]))
			}
		}
		// Its last one depends on one that the list never had.
		for size := 1; size < 18; size++ {
			short := slices.DeleteFunc(freshInsts(l), func(x impl.Inst) bool { return slices.Contains(numbers[size:], idNumber(x.Id)) })
			hasExec(t, "the end of the chain is absent", short, nil, sorted(numbers[:size]))
		}
	}
}

func TestExecWaitsOnACycle(t *testing.T) {
	for _, size := range []int{2, 3, 5, 10, 17} {
		numbers, outside := rotated(5)[:size], rotated(5)[17]
		l := distinct(ring(numbers))
		hasExec(t, "cycle", l, sorted(numbers), nil)
		for _, number := range numbers {
			rest := slices.DeleteFunc(sorted(numbers), func(n int) bool { return n == number })
			for what, other := range notCommitted(l, number) {
				hasExec(t, what+" on the cycle", other, nil, rest)
			}
			out := with(l, number, func(x *impl.Inst) { x.Deps = impl.JoinIds(x.Deps, ids(outside)) })
			hasExec(t, "depends on an absent one outside", out, nil, sorted(numbers))
		}
	}
	// Over several: the cycle 0, 6, 12 leads to 1, and that leads over 2 to 3.
	far := distinct(linked([]int{0, 6}, []int{6, 1, 12}, []int{12, 0}, []int{1, 2}, []int{2, 3}, []int{3}, []int{17, 12}))
	hasExec(t, "all are there", far, []int{3, 2, 1, 0, 6, 12, 17}, nil)
	for what, other := range notCommitted(far, 3) {
		hasExec(t, what+" far from the cycle", other, nil, []int{0, 1, 2, 6, 12, 17})
	}
	for what, other := range notCommitted(far, 17) {
		hasExec(t, what+" depends on the cycle", other, []int{3, 2, 1, 0, 6, 12}, nil)
	}
}

func TestExecBesideWhatWaits(t *testing.T) {
	l := distinct(linked([]int{0, 1}, []int{1, 0}, []int{2, 3}, []int{3, 2, 16}, []int{6}, []int{7, 3}, []int{8, 6, 0}, []int{12, 8, 7}))
	hasExec(t, "absent", l, []int{0, 1, 6, 8}, []int{2, 3, 7, 12})
	hasExec(t, "by Seq", withSeqs(l, 2, 1, 2, 1, 9, 8, 7, 6), []int{1, 0, 6, 8}, []int{2, 3, 7, 12})
	there := distinct(append(l, linked([]int{16, 17}, []int{17, 16})...))
	hasExec(t, "all there", there, []int{0, 1, 6, 8, 16, 17, 2, 3, 7, 12}, nil)
	for what, other := range notCommitted(there, 16) {
		hasExec(t, what, other, []int{0, 1, 6, 8}, []int{2, 3, 7, 12, 17})
	}
	for what, other := range notCommitted(there, 0) {
		hasExec(t, what, other, []int{6, 16, 17, 2, 3, 7}, []int{1, 8, 12})
	}
	for what, other := range notCommitted(there, 6) {
		hasExec(t, what, other, []int{0, 1, 16, 17, 2, 3, 7}, []int{8, 12})
	}
	for what, other := range notCommitted(there, 12) {
		hasExec(t, what, other, []int{0, 1, 6, 8, 16, 17, 2, 3, 7}, nil)
	}
}

func TestExecCmdsOfEachKind(t *testing.T) {
	for _, c := range validCmds()[1:] {
		l := []impl.Inst{plainInst(idOf(1, 4), c, 1)}
		if got := impl.ExecCmds(l); !equalCmdLists(got, []impl.Cmd{c}) {
			t.Errorf("ExecCmds of %+v alone are %+v", c, got)
		}
		l = append(linked([]int{0, 9}, []int{6}), l[0])
		if got := impl.ExecCmds(l); !equalCmdLists(got, []impl.Cmd{readOf("a"), c, readOf("a")}) {
			t.Errorf("ExecCmds of %+v in the middle are %+v", c, got)
		}
	}
	// All kinds in one list, in an order that is not that of the Ids.
	var l []impl.Inst
	var want []impl.Cmd
	for i, c := range validCmds() {
		x := plainInst(allIds()[i], c, 1)
		if i+1 < len(validCmds()) {
			x.Deps = ids(i + 1)
		}
		l = append(l, x)
		if i > 0 {
			want = append([]impl.Cmd{c}, want...)
		}
	}
	if got := impl.ExecCmds(l); !equalCmdLists(got, want) {
		t.Errorf("ExecCmds of all kinds are %+v", got)
	}
	checkExec(t, "all kinds", l)
}

func TestExecCmdsLeaveOutNoop(t *testing.T) {
	l := distinct(linked([]int{0, 17}, []int{4}, []int{8}, []int{12, 13}, []int{13, 12}, []int{17}))
	order := []int{4, 8, 12, 13, 17, 0}
	hasExec(t, "no CmNoop", l, order, nil)
	cmdsOf := func(numbers ...int) []impl.Cmd {
		var out []impl.Cmd
		for _, id := range ids(numbers...) {
			out = append(out, wantInstAt(l, id).Cmd)
		}
		return out
	}
	for _, c := range []struct {
		what   string
		silent []int
		left   []int
	}{
		{"at the beginning", []int{4}, []int{8, 12, 13, 17, 0}},
		{"in the middle", []int{8}, []int{4, 12, 13, 17, 0}},
		{"at the end", []int{0}, []int{4, 8, 12, 13, 17}},
		{"first on a cycle", []int{12}, []int{4, 8, 13, 17, 0}},
		{"last on a cycle", []int{13}, []int{4, 8, 12, 17, 0}},
		{"a whole cycle", []int{12, 13}, []int{4, 8, 17, 0}},
		{"two at the beginning", []int{4, 8}, []int{12, 13, 17, 0}},
		{"two at the end", []int{17, 0}, []int{4, 8, 12, 13}},
		{"at all three", []int{4, 12, 0}, []int{8, 13, 17}},
		{"all but one", []int{0, 4, 8, 12, 17}, []int{13}},
		{"all", order, nil},
	} {
		other := silent(l, c.silent...)
		hasExec(t, c.what, other, order, nil)
		if got := impl.ExecCmds(other); !equalCmdLists(got, cmdsOf(c.left...)) {
			t.Errorf("CmNoop %s: %+v, want those of %v", c.what, got, ids(c.left...))
		}
	}
	// Others wait for one, and one waits: it is not in the answer, but it has its place.
	for number, id := range allIds() {
		hasExec(t, "alone", []impl.Inst{plainInst(id, impl.Cmd{}, 0)}, []int{number}, nil)
	}
	waiting := silent(withStatus(l, 17, impl.EsAcc), 0, 4)
	hasExec(t, "one that waits", waiting, []int{4, 8, 12, 13}, []int{0})
	hasExec(t, "one that is not EsCom", silent(withStatus(l, 17, impl.EsPre), 17), []int{4, 8, 12, 13}, []int{0})
}

func TestExecCmdsOfEqualCommands(t *testing.T) {
	c := validCmds()[5]
	two := []impl.Inst{plainInst(idOf(0, 2), c, 1), plainInst(idOf(2, 1), c, 1)}
	hasExec(t, "two", two, []int{1, 12}, nil)
	if got := impl.ExecCmds(two); !equalCmdLists(got, []impl.Cmd{c, c}) {
		t.Errorf("two instances with one command: %+v", got)
	}
	two[0].Deps = ids(12)
	hasExec(t, "one depends on the other", two, []int{12, 1}, nil)
	two[1].Deps = ids(1)
	if got := impl.ExecCmds(two); !equalCmdLists(got, []impl.Cmd{c, c}) {
		t.Errorf("two instances with one command on a cycle: %+v", got)
	}
	two[0].Deps = ids(3)
	hasExec(t, "both wait", two, nil, []int{1, 12})
	two[1].Deps = nil
	if got := impl.ExecCmds(two); !equalCmdLists(got, []impl.Cmd{c}) {
		t.Errorf("one of two instances with one command waits: %+v", got)
	}
	var all []impl.Inst
	for _, id := range allIds() {
		all = append(all, plainInst(id, c, 1))
	}
	hasExec(t, "all", all, rotated(1), nil)
	if got := impl.ExecCmds(all); !equalCmdLists(got, slices.Repeat([]impl.Cmd{c}, 18)) {
		t.Errorf("18 instances with one command: %+v", got)
	}
	// Equal but for one field.
	near := []impl.Inst{plainInst(idOf(0, 1), readOf("a"), 1), plainInst(idOf(0, 2), readOf("a"), 1), plainInst(idOf(0, 3), readOf("b"), 1)}
	near[1].Cmd.No = 2
	hasExec(t, "nearly equal", near, []int{0, 1, 2}, nil)
}

func TestExecCmdsBySeq(t *testing.T) {
	turn := distinct(ring([]int{2, 11, 6, 17, 13})) // in the order of the Ids: 2, 6, 11, 13, 17
	for _, c := range []struct{ seqs, want []int }{
		{[]int{7, 7, 7, 7, 7}, []int{2, 6, 11, 13, 17}},
		{[]int{0, 15, 30, 45, 60}, []int{2, 6, 11, 13, 17}},
		{[]int{60, 45, 30, 15, 0}, []int{17, 13, 11, 6, 2}},
		{[]int{3, 60, 0, 9, 2}, []int{11, 17, 2, 13, 6}},
		{[]int{3, 2, 3, 2, 1}, []int{17, 6, 13, 2, 11}},
		{[]int{1, 1, 1, 1, 0}, []int{17, 2, 6, 11, 13}},
	} {
		hasExec(t, "cycle", withSeqs(turn, c.seqs...), c.want, nil)
	}
	// Seq does not count between components, nor for those that wait.
	apart := distinct(linked([]int{0, 1}, []int{1, 0}, []int{2, 3, 1}, []int{3, 2}, []int{5}, []int{8, 9}, []int{9, 8, 17}))
	hasExec(t, "two cycles", withSeqs(apart, 60, 59, 2, 1, 0, 5, 4), []int{1, 0, 3, 2, 5}, []int{8, 9})
}

func TestExecLooksAtNothingElse(t *testing.T) {
	l := distinct(linked([]int{0, 6}, []int{1, 0}, []int{6, 0}, []int{9, 1}, []int{12}, []int{14, 15}))
	for at := range l {
		other := freshInsts(l)
		other[at].Same, other[at].Bal, other[at].VBal = true, 600, 600
		hasExec(t, "another ballot", other, []int{0, 6, 1, 9, 12}, []int{14})
		other[at].Same, other[at].Bal, other[at].VBal = false, -1, -1
		hasExec(t, "no ballot", other, []int{0, 6, 1, 9, 12}, []int{14})
	}
}

func TestBeforeOfTwo(t *testing.T) {
	l := distinct(linked([]int{0, 17}, []int{3}, []int{6, 7}, []int{7, 6, 3}, []int{9, 7}, []int{12, 11}, []int{13, 12}, []int{17}))
	l = append(l[:4], append(withStatus(linked([]int{8}), 8, impl.EsPre), l[4:]...)...)
	hasExec(t, "all", l, []int{3, 6, 7, 9, 17, 0}, []int{12, 13})
	at := func(n int) impl.Id { return ids(n)[0] }
	isBefore(t, "one depends on the other", l, at(17), at(0), true, false)
	isBefore(t, "over another", l, at(3), at(9), true, false)
	isBefore(t, "not neighbours", l, at(3), at(0), true, false)
	isBefore(t, "on a cycle", l, at(6), at(7), true, false)
	isBefore(t, "on a cycle, by Seq", with(l, 6, func(x *impl.Inst) { x.Seq = 2 }), at(7), at(6), true, false)
	isBefore(t, "they do not depend on each other", l, at(3), at(17), true, false)
	isBefore(t, "they do not depend on each other", l, at(9), at(17), true, false)
	isBefore(t, "one waits", l, at(3), at(12), false, false)
	isBefore(t, "one waits", l, at(0), at(13), false, false)
	isBefore(t, "both wait, one for the other", l, at(12), at(13), false, false)
	isBefore(t, "one is not EsCom", l, at(3), at(8), false, false)
	isBefore(t, "one is absent", l, at(3), at(16), false, false)
	isBefore(t, "one is absent, and another depends on it", l, at(11), at(12), false, false)
	isBefore(t, "both are absent", l, at(1), at(2), false, false)
	for number, id := range allIds() {
		isBefore(t, "itself", l, id, id, false, false)
		isBefore(t, "itself", []impl.Inst{plainInst(id, listOf(), 1)}, id, id, false, false)
		isBefore(t, "itself on a cycle", distinct(ring(rotated(7))), id, id, false, false)
		isBefore(t, "alone", []impl.Inst{plainInst(id, listOf(), 1)}, id, at((number+1)%18), false, false)
	}
	for _, id := range otherIds() {
		for _, other := range append(allIds(), otherIds()...) {
			isBefore(t, "not valid", l, id, other, false, false)
		}
	}
}

func TestBeforeIsOneWay(t *testing.T) {
	for _, l := range [][]impl.Inst{chain(rotated(5)), ring(rotated(11)), fully(func(id int, dep int) bool { return dep/6 >= id/6 })} {
		order := impl.ExecOrder(l)
		for i, a := range order {
			for j, b := range order {
				isBefore(t, "in the order", l, a, b, i < j, j < i)
			}
		}
		if len(order) != 18 {
			t.Errorf("%v has not all Ids", order)
		}
	}
}

func TestWaitingIsInOrder(t *testing.T) {
	// The greater Ids wait for the missing one, the smaller ones for the greater ones.
	l := distinct(linked([]int{0, 17}, []int{5, 6}, []int{6, 12}, []int{8}, []int{11, 0}, []int{12, 11, 17}, []int{13, 8}, []int{17, 16}))
	hasExec(t, "over all three Reps", l, []int{8, 13}, []int{0, 5, 6, 11, 12, 17})
	for number := range 18 {
		var rows [][]int
		for other := range 18 {
			if other != number {
				rows = append(rows, []int{other, number})
			}
		}
		rest := slices.DeleteFunc(rotated(1), func(n int) bool { return n == number })
		l := distinct(linked(rows...))
		hasExec(t, "all wait for one", l, nil, rest)
		l = distinct(linked(append(rows, []int{number})...))
		hasExec(t, "none waits", l, append([]int{number}, rest...), nil)
		for _, status := range []int{impl.EsNone, impl.EsPre, impl.EsAcc} {
			hasExec(t, "all wait but the one that is not EsCom", withStatus(l, number, status), nil, rest)
		}
	}
}

func TestWaitingOnlyIfCommitted(t *testing.T) {
	// All depend on 17, which is absent.
	l := distinct(linked([]int{0, 17}, []int{1, 17}, []int{2, 17}, []int{7, 17}, []int{12, 17}, []int{13}))
	hasExec(t, "all are EsCom", l, []int{13}, []int{0, 1, 2, 7, 12})
	for _, number := range []int{0, 1, 2, 7, 12} {
		rest := slices.DeleteFunc([]int{0, 1, 2, 7, 12}, func(n int) bool { return n == number })
		for what, other := range notCommitted(l, number) {
			hasExec(t, what, other, []int{13}, rest)
		}
	}
	mixed := withStatus(withStatus(withStatus(l, 1, impl.EsPre), 7, impl.EsAcc), 2, impl.EsNone)
	hasExec(t, "each Status", mixed, []int{13}, []int{0, 12})
	hasExec(t, "none is EsCom", withStatus(withStatus(withStatus(mixed, 0, impl.EsPre), 12, impl.EsAcc), 13, impl.EsAcc), nil, nil)
}

func TestExecOfGreatestLists(t *testing.T) {
	all := rotated(1)
	back := slices.Clone(all)
	slices.Reverse(back)
	var seqs []int
	for n := range 18 {
		seqs = append(seqs, 60-n)
	}
	each := distinct(fully(func(int, int) bool { return true }))
	hasExec(t, "each on all others", each, all, nil)
	hasExec(t, "each on all others, by Seq", withSeqs(each, seqs...), back, nil)
	hasExec(t, "on all smaller", distinct(fully(func(id int, dep int) bool { return dep < id })), all, nil)
	hasExec(t, "on all greater", distinct(fully(func(id int, dep int) bool { return dep > id })), back, nil)
	hasExec(t, "on all of its Rep and of greater ones", distinct(fully(func(id int, dep int) bool { return dep/6 >= id/6 })), slices.Concat(all[12:], all[6:12], all[:6]), nil)
	for number := range 18 {
		rest := slices.DeleteFunc(slices.Clone(all), func(n int) bool { return n == number })
		for what, other := range notCommitted(each, number) {
			hasExec(t, what, other, nil, rest)
		}
		smaller := distinct(fully(func(id int, dep int) bool { return dep < id }))
		for what, other := range notCommitted(smaller, number) {
			hasExec(t, what, other, all[:number], all[number+1:])
		}
	}
	hasExec(t, "only CmNoop", silent(each, all...), all, nil)
}

func TestEveryExecOfThree(t *testing.T) {
	count := 0
	everyGraphOfThree(func(l []impl.Inst) {
		l = distinct(l)
		if count++; count%4 == 0 {
			l = silent(l, 6)
		}
		checkExec(t, "three", l)
	})
}

// execKinds counts what a list has of what the chapter tells apart.
func execKinds(seen map[string]int, l []impl.Inst, p plainExec) {
	count := func(what string, holds bool) {
		if holds {
			seen[what]++
		}
	}
	noop := func(id impl.Id) bool { return wantInstAt(l, id).Cmd.Kind == 0 }
	last := len(p.order) - 1
	count("some wait", len(p.order) > 0 && len(p.waiting) > 0)
	count("all wait", len(p.order) == 0 && len(p.waiting) > 0)
	count("none waits", len(p.order) > 0 && len(p.waiting) == 0)
	count("one that waits beside one that is not EsCom", len(p.waiting) > 0 && len(p.order)+len(p.waiting) < len(l))
	count("CmNoop at the beginning", last > 0 && noop(p.order[0]))
	count("CmNoop in the middle", last > 1 && slices.ContainsFunc(p.order[1:last], noop))
	count("CmNoop at the end", last > 0 && noop(p.order[last]))
	count("CmNoop waits", slices.ContainsFunc(p.waiting, noop))
	count("equal commands", slices.ContainsFunc(p.cmds, func(c impl.Cmd) bool { return timesIn(p.cmds, c, equalCmds) > 1 }))
	count("not in the order of the Ids", !slices.IsSortedFunc(p.order, func(a, b impl.Id) int { return idNumber(a) - idNumber(b) }))
}

func TestAnyExec(t *testing.T) {
	seen := map[string]int{}
	for seed := range 600 {
		r := lcg(seed + 31000)
		l := anyGraph(&r)
		checkExec(t, "any", l)
		execKinds(seen, l, plainExecOf(l))
		if r.below(4) == 0 {
			at := r.below(len(l))
			l[at] = spoil(&r, l[at])
			checkExec(t, "spoilt", l)
		}
	}
	haveSeen(t, seen, 30, "some wait", "all wait", "none waits", "one that waits beside one that is not EsCom", "CmNoop at the beginning",
		"CmNoop in the middle", "CmNoop at the end", "CmNoop waits", "equal commands", "not in the order of the Ids")
}

func TestExecOfNodes(t *testing.T) {
	seen := map[string]int{}
	for _, l := range listsOfNodes(t, 40, 8800) {
		execKinds(seen, l, checkExec(t, "a node", l))
	}
	haveSeen(t, seen, 1, "some wait", "none waits", "one that waits beside one that is not EsCom", "not in the order of the Ids")
}

// A node that has heard of the second command only executes neither of the two
// until it hears of the first one.
func TestExecOfANodeThatHearsLate(t *testing.T) {
	first, second := readOf("a"), commitOf("a")
	notToTwo := func(m impl.EMsg) bool { return m.To != 2 }
	x := deliver(mustDo(t, "first", impl.ENetNew(), offerAct(0, first)), notToTwo)
	x = deliver(mustDo(t, "without node 2", x, slowAct(0, idOf(0, 1))), notToTwo)
	x = mustDo(t, "second", x, offerAct(0, second))
	x = deliver(x, func(m impl.EMsg) bool { return m.Id == idOf(0, 2) })
	hasExec(t, "node 0", x.Nodes[0].Insts, []int{0, 1}, nil)
	hasExec(t, "node 1", x.Nodes[1].Insts, []int{0, 1}, nil)
	hasExec(t, "node 2", x.Nodes[2].Insts, nil, []int{1})
	x = deliver(x, func(impl.EMsg) bool { return true })
	hasExec(t, "node 2", x.Nodes[2].Insts, []int{0, 1}, nil)
	if got := impl.ExecCmds(x.Nodes[2].Insts); !equalCmdLists(got, []impl.Cmd{first, second}) {
		t.Errorf("node 2 executes %+v", got)
	}
}

func execLists() [][]impl.Inst {
	lists := append(graphLists(), distinct(fully(func(id int, dep int) bool { return dep > id })))
	for i, l := range lists[:len(lists):len(lists)] {
		if i%10 == 0 && impl.InstsOk(l) {
			lists = append(lists, distinct(l))
		}
	}
	return lists
}

// execResults are all that the functions return; before is in the order of the
// Ids.
type execResults struct {
	cmds    []impl.Cmd
	before  []bool
	waiting []impl.Id
}

func execCalls(l []impl.Inst) execResults {
	out := execResults{cmds: impl.ExecCmds(l), waiting: impl.Waiting(l)}
	for _, a := range ids(0, 2, 5, 6, 9, 17) {
		for _, b := range ids(1, 2, 8, 12, 17) {
			out.before = append(out.before, impl.Before(l, a, b))
		}
	}
	return out
}

func (a execResults) equals(b execResults) bool {
	return equalCmdLists(a.cmds, b.cmds) && slices.Equal(a.before, b.before) && slices.Equal(a.waiting, b.waiting)
}

// asInsts puts commands in places where instsApart looks for them.
func asInsts(l []impl.Cmd) []impl.Inst {
	var out []impl.Inst
	for _, c := range l {
		out = append(out, impl.Inst{Cmd: c})
	}
	return out
}

func TestExecFunctionsChangeNoArgument(t *testing.T) {
	leavesAlone(t, execLists(), func(l []impl.Inst) { execCalls(l) })
}

func TestExecFunctionsShareNoMemory(t *testing.T) {
	for _, given := range execLists() {
		l := freshInsts(given)
		first, second := execCalls(l), execCalls(l)
		instsApart(t, "ExecCmds", slices.Concat(l, asInsts(first.cmds), asInsts(second.cmds)))
		listsApart(t, "ExecCmds", [][]impl.Cmd{first.cmds, second.cmds})
		lists := [][]impl.Id{first.waiting, second.waiting}
		for _, x := range l {
			lists = append(lists, x.Deps)
		}
		listsApart(t, "Waiting", lists)
		want := execCalls(freshInsts(given))
		for i := range first.cmds {
			for k := range first.cmds[i].Chunks {
				first.cmds[i].Chunks[k] = "changed!"
			}
			_ = append(first.cmds[i].Chunks, slices.Repeat([]string{"added"}, cap(first.cmds[i].Chunks)-len(first.cmds[i].Chunks))...)
		}
		clear(first.cmds)
		for i := range first.waiting {
			first.waiting[i] = idOf(8, 8)
		}
		_ = append(first.waiting, slices.Repeat(ids(7), cap(first.waiting)-len(first.waiting))...)
		if !equalInstLists(l, given) || !second.equals(want) {
			t.Errorf("a change of results changes %+v or %+v", l, second)
		}
	}
}

// All instances of the argument have one list of Chunks.
func TestExecCmdsSeparateWhatAnArgumentShares(t *testing.T) {
	c := freshCmd(validCmds()[5])
	var l []impl.Inst
	for _, id := range ids(0, 4, 9, 12) {
		l = append(l, plainInst(id, c, 1))
	}
	l[2].Deps = ids(4, 12)
	got := impl.ExecCmds(l)
	instsApart(t, "one list of Chunks", append(asInsts(got), impl.Inst{Cmd: c}))
	for i := range got {
		got[i].Chunks[0] = "changed!"
	}
	if !equalCmds(c, validCmds()[5]) {
		t.Errorf("a change of results changes %+v", c)
	}
	hasExec(t, "one list of Chunks", l, []int{0, 4, 12, 9}, nil)
}

func TestExecFunctionsKeepNoState(t *testing.T) {
	keepsNoState(t, execLists(), execCalls, execResults.equals)
}
