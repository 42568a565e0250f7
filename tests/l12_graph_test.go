package tests

import (
	"math"
	"reflect"
	"slices"
	"testing"

	"loop.example/g00954/impl"
)

// plainGraph is the second reading of the chapter: a table that tells of each two
// Ids, by their numbers, whether a path leads from one to the other.
type plainGraph struct {
	committed [18]bool
	seqs      [18]int
	deps      [18][]impl.Id
	leads     [18][18]bool
}

func plainGraphOf(l []impl.Inst) plainGraph {
	var g plainGraph
	if !wantInstsOk(l) {
		return g
	}
	for _, x := range l {
		if x.Status != 3 {
			continue
		}
		i := idNumber(x.Id)
		g.committed[i], g.seqs[i], g.deps[i] = true, x.Seq, x.Deps
		for _, dep := range x.Deps {
			g.leads[i][idNumber(dep)] = true
		}
	}
	for over := range 18 {
		for from := range 18 {
			for to := range 18 {
				g.leads[from][to] = g.leads[from][to] || g.leads[from][over] && g.leads[over][to]
			}
		}
	}
	return g
}

func (g *plainGraph) reach(id impl.Id) []impl.Id {
	if idNumber(id) < 0 {
		return nil
	}
	return wantOfAll(func(other impl.Id) bool { return g.leads[idNumber(id)][idNumber(other)] })
}

func (g *plainGraph) ready(id impl.Id) bool {
	if idNumber(id) < 0 || !g.committed[idNumber(id)] {
		return false
	}
	for other, leads := range g.leads[idNumber(id)] {
		if leads && !g.committed[other] {
			return false
		}
	}
	return true
}

// partOf is in the order of the Ids.
func (g *plainGraph) partOf(id impl.Id) []impl.Id {
	at := idNumber(id)
	return wantOfAll(func(other impl.Id) bool {
		return other == id || g.leads[at][idNumber(other)] && g.leads[idNumber(other)][at]
	})
}

// possible tells whether a component can be listed behind these Ids.
func (g *plainGraph) possible(part []impl.Id, listed []impl.Id) bool {
	for _, id := range part {
		for _, dep := range g.deps[idNumber(id)] {
			if !slices.Contains(part, dep) && !slices.Contains(listed, dep) {
				return false
			}
		}
	}
	return true
}

// parts looks for the smallest Id whose component is possible; later tells how
// often one is possible only after one with a greater Id.
func (g *plainGraph) parts() (parts [][]impl.Id, later int) {
	remaining := wantOfAll(g.ready)
	var listed []impl.Id
	for len(remaining) > 0 {
		at := slices.IndexFunc(remaining, func(id impl.Id) bool { return g.possible(g.partOf(id), listed) })
		if at < 0 {
			panic("the components that remain wait for each other")
		}
		if at > 0 {
			later++
		}
		part := g.partOf(remaining[at])
		listed = append(listed, part...)
		remaining = slices.DeleteFunc(remaining, func(id impl.Id) bool { return slices.Contains(part, id) })
		slices.SortFunc(part, func(a, b impl.Id) int {
			return g.seqs[idNumber(a)]*18 + idNumber(a) - g.seqs[idNumber(b)]*18 - idNumber(b)
		})
		parts = append(parts, part)
	}
	return parts, later
}

func equalParts(a [][]impl.Id, b [][]impl.Id) bool {
	return slices.EqualFunc(a, b, slices.Equal[[]impl.Id])
}

// checkGraph holds all functions against the second reading, and against the
// promise; they leave their argument alone.
func checkGraph(t *testing.T, what string, l []impl.Inst) [][]impl.Id {
	t.Helper()
	before, g := freshInsts(l), plainGraphOf(l)
	for _, id := range append(allIds(), impl.Id{}, idOf(0, 7), idOf(3, 1)) {
		if got, want := impl.Reach(l, id), g.reach(id); !slices.Equal(got, want) {
			t.Fatalf("%s: Reach(%+v, %v) = %v, want %v", what, l, id, got, want)
		}
		if got, want := impl.Ready(l, id), g.ready(id); got != want {
			t.Fatalf("%s: Ready(%+v, %v) = %v", what, l, id, got)
		}
	}
	want, _ := g.parts()
	parts, order := impl.Parts(l), impl.ExecOrder(l)
	if !equalParts(parts, want) {
		t.Fatalf("%s: Parts(%+v) = %v, want %v", what, l, parts, want)
	}
	if !slices.Equal(order, slices.Concat(want...)) {
		t.Fatalf("%s: ExecOrder(%+v) = %v, want %v", what, l, order, want)
	}
	if !equalInstLists(l, before) {
		t.Fatalf("%s: the list has become\n%+v, it was\n%+v", what, l, before)
	}
	keepsOrder(t, what, l, parts, order)
	return parts
}

// keepsOrder asks only the program: each Id that is Ready is in one component and
// once in the order, no other Id is in any, and none precedes one on which it
// depends, except within a component.
func keepsOrder(t *testing.T, what string, l []impl.Inst, parts [][]impl.Id, order []impl.Id) {
	t.Helper()
	place := map[impl.Id]int{}
	for at, part := range parts {
		if len(part) == 0 {
			t.Fatalf("%s: %v: a component without Ids", what, parts)
		}
		for _, id := range part {
			if _, twice := place[id]; twice || !impl.Ready(l, id) {
				t.Fatalf("%s: %v: %v is there twice, or it is not Ready", what, parts, id)
			}
			place[id] = at
		}
	}
	for _, x := range l {
		if _, listed := place[x.Id]; listed != impl.Ready(l, x.Id) {
			t.Fatalf("%s: %v: %v is in a component: %v", what, parts, x.Id, listed)
		}
	}
	for a, id := range order {
		if slices.Contains(order[:a], id) {
			t.Fatalf("%s: %v: %v is there twice", what, order, id)
		}
		together := func(other impl.Id) bool {
			return slices.Contains(impl.Reach(l, id), other) && slices.Contains(impl.Reach(l, other), id)
		}
		for _, dep := range wantInstAt(l, id).Deps {
			b := slices.Index(order, dep)
			if b < 0 || b > a && !together(dep) || place[dep] > place[id] || (place[dep] == place[id]) != together(dep) {
				t.Fatalf("%s: %v precedes %v, on which it depends: %v of %+v", what, id, dep, parts, l)
			}
		}
	}
	if len(order) != len(place) {
		t.Fatalf("%s: %v has other Ids than %v", what, order, parts)
	}
}

// ids are the ones with these numbers, from 0 to 17.
func ids(numbers ...int) []impl.Id {
	var out []impl.Id
	for _, n := range numbers {
		out = append(out, allIds()[n])
	}
	return out
}

func groups(rows ...[]int) [][]impl.Id {
	var out [][]impl.Id
	for _, row := range rows {
		out = append(out, ids(row...))
	}
	return out
}

// linked are committed instances: the first number of a row is that of the Id,
// the others are those of its Deps. All have the Seq 1.
func linked(rows ...[]int) []impl.Inst {
	var out []impl.Inst
	for _, row := range rows {
		x := plainInst(ids(row[0])[0], readOf("a"), 1)
		x.Deps = wantOfAll(func(id impl.Id) bool { return slices.Contains(row[1:], idNumber(id)) })
		out = append(out, x)
	}
	slices.SortFunc(out, func(a, b impl.Inst) int { return idNumber(a.Id) - idNumber(b.Id) })
	return out
}

// with changes the instance with this number.
func with(l []impl.Inst, number int, change func(*impl.Inst)) []impl.Inst {
	out := freshInsts(l)
	for i := range out {
		if idNumber(out[i].Id) == number {
			change(&out[i])
		}
	}
	return out
}

func withSeqs(l []impl.Inst, seqs ...int) []impl.Inst {
	out := freshInsts(l)
	for i, seq := range seqs {
		out[i].Seq = seq
	}
	return out
}

// withStatus leaves the Deps in place, except where an instance with this Status
// has none.
func withStatus(l []impl.Inst, number int, status int) []impl.Inst {
	return with(l, number, func(x *impl.Inst) {
		x.Status = status
		if status == impl.EsNone {
			*x = unsetInst(x.Id, x.Bal)
		}
	})
}

func without(l []impl.Inst, number int) []impl.Inst {
	return slices.DeleteFunc(freshInsts(l), func(x impl.Inst) bool { return idNumber(x.Id) == number })
}

// notCommitted are the list with the instance with this number in each state
// other than EsCom, and without it.
func notCommitted(l []impl.Inst, number int) map[string][]impl.Inst {
	return map[string][]impl.Inst{
		"EsNone": withStatus(l, number, impl.EsNone),
		"EsPre":  withStatus(l, number, impl.EsPre),
		"EsAcc":  withStatus(l, number, impl.EsAcc),
		"absent": without(l, number),
	}
}

// reaches tells of one Id what is in Reach of it.
func reaches(t *testing.T, what string, l []impl.Inst, number int, want ...int) {
	t.Helper()
	if got := impl.Reach(l, ids(number)[0]); !slices.Equal(got, ids(want...)) {
		t.Errorf("%s: Reach of %v is %v, want %v", what, ids(number), got, ids(want...))
	}
}

// isReady tells of one Id whether it is Ready.
func isReady(t *testing.T, what string, l []impl.Inst, number int, want bool) {
	t.Helper()
	if got := impl.Ready(l, ids(number)[0]); got != want {
		t.Errorf("%s: Ready of %v is %v", what, ids(number), got)
	}
}

// hasParts tells which components there are, in this order.
func hasParts(t *testing.T, what string, l []impl.Inst, rows ...[]int) {
	t.Helper()
	if got, want := checkGraph(t, what, l), groups(rows...); !equalParts(got, want) {
		t.Errorf("%s: Parts are %v, want %v", what, got, want)
	}
	if got, want := impl.ExecOrder(l), slices.Concat(groups(rows...)...); !slices.Equal(got, want) {
		t.Errorf("%s: ExecOrder is %v, want %v", what, got, want)
	}
}

// nothingOf tells that the functions return nil and false, for whatever Id.
func nothingOf(t *testing.T, what string, l []impl.Inst) {
	t.Helper()
	for _, id := range append(allIds(), otherIds()...) {
		if got := impl.Reach(l, id); len(got) != 0 {
			t.Errorf("%s: Reach of %v is %v", what, id, got)
		}
		if impl.Ready(l, id) {
			t.Errorf("%s: %v is Ready", what, id)
		}
	}
	if parts, order := impl.Parts(l), impl.ExecOrder(l); len(parts) != 0 || len(order) != 0 {
		t.Errorf("%s: %v, %v", what, parts, order)
	}
}

func TestGraphOfNoInstance(t *testing.T) {
	for _, l := range [][]impl.Inst{nil, {}} {
		nothingOf(t, "no instance", l)
		checkGraph(t, "no instance", l)
	}
}

func TestGraphOfAnInvalidList(t *testing.T) {
	for _, l := range invalidInstLists() {
		nothingOf(t, "invalid", l)
		for _, x := range l {
			nothingOf(t, "invalid, and more", append(linked([]int{0}, []int{1, 0}), x, x))
		}
	}
	// All are Ready as long as the list is valid; the one that is spoilt is far from most.
	valid := linked([]int{1}, []int{3, 4}, []int{4, 3}, []int{7, 4}, []int{12}, []int{16, 12}, []int{17})
	hasParts(t, "valid", valid, []int{1}, []int{3, 4}, []int{7}, []int{12}, []int{16}, []int{17})
	spoiltLists(valid, func(what string, l []impl.Inst) { nothingOf(t, what, l) })
}

// spoiltLists are this list, which is valid, with one of its instances spoilt, in
// another order, or with one twice.
func spoiltLists(valid []impl.Inst, visit func(what string, l []impl.Inst)) {
	for at := range valid {
		for _, change := range spoiling() {
			l := freshInsts(valid)
			change(&l[at])
			visit("one is invalid", l)
			l[at].Status = impl.EsPre
			visit("one is invalid and EsPre", l)
		}
		for other := range valid[:at] {
			l := freshInsts(valid)
			l[at], l[other] = l[other], l[at]
			visit("not in order", l)
			l[at] = freshInst(l[other])
			visit("twice", l)
		}
	}
}

// spoiling changes a valid instance that is EsCom so that it is not valid.
func spoiling() []func(*impl.Inst) {
	return []func(*impl.Inst){
		func(x *impl.Inst) { x.Id.Rep = 3 },
		func(x *impl.Inst) { x.Id.Rep = -1 },
		func(x *impl.Inst) { x.Id.Slot = 0 },
		func(x *impl.Inst) { x.Id.Slot = 7 },
		func(x *impl.Inst) { x.Bal = 601 },
		func(x *impl.Inst) { x.Bal = x.VBal - 1 },
		func(x *impl.Inst) { x.VBal = -2 },
		func(x *impl.Inst) { x.Seq = 61 },
		func(x *impl.Inst) { x.Seq = -1 },
		func(x *impl.Inst) { x.Cmd.Set = "" },
		func(x *impl.Inst) { x.Cmd.No = 1001 },
		func(x *impl.Inst) { x.Cmd.Kind = 8 },
		func(x *impl.Inst) { x.Deps = []impl.Id{x.Id} },
		func(x *impl.Inst) { x.Deps = []impl.Id{{Rep: 0, Slot: 0}} },
		func(x *impl.Inst) { x.Deps = []impl.Id{idOf(2, 7)} },
		func(x *impl.Inst) { x.Deps = ids(15, 14) },
		func(x *impl.Inst) { x.Deps = ids(15, 15) },
	}
}

func TestGraphOfAnInvalidStatus(t *testing.T) {
	valid := linked([]int{2}, []int{9, 2})
	for _, status := range []int{math.MinInt, -1, 4, math.MaxInt, 1<<32 + 3} {
		nothingOf(t, "Status", with(valid, 2, func(x *impl.Inst) { x.Status = status }))
		nothingOf(t, "Status", with(valid, 9, func(x *impl.Inst) { x.Status = status }))
	}
	unset := []impl.Inst{unsetInst(idOf(0, 1), 3), plainInst(idOf(0, 2), readOf("a"), 1)}
	hasParts(t, "beside EsNone", unset, []int{1})
	unset[0].Seq = 1
	nothingOf(t, "EsNone with a Seq", unset)
	unset[0].Seq, unset[0].Deps = 0, ids(1)
	nothingOf(t, "EsNone with Deps", unset)
}

func TestGraphOfALongList(t *testing.T) {
	long := slices.Repeat(linked([]int{0}, []int{1, 0}), 100000)
	nothingOf(t, "many instances", long)
	deps := linked([]int{0}, []int{1, 0})
	deps[1].Deps = slices.Repeat(ids(0, 2), 100000)
	nothingOf(t, "many Deps", deps)
}

// eachAlone are instances with each Id and in each Status, without Deps and, where
// the Status allows it, with all that there can be.
func eachAlone(visit func(number int, x impl.Inst)) {
	for number, id := range allIds() {
		visit(number, unsetInst(id, 600))
		for status := impl.EsPre; status <= impl.EsCom; status++ {
			x := impl.Inst{Id: id, Bal: 600, VBal: 7, Status: status, Cmd: listOf(), Seq: 60, Same: true}
			visit(number, x)
			x.Deps = wantOfAll(func(other impl.Id) bool { return other != id })
			visit(number, x)
		}
	}
}

func TestGraphOfOneInstance(t *testing.T) {
	eachAlone(func(number int, x impl.Inst) {
		l, parts, reached := []impl.Inst{x}, [][]int{}, []impl.Id{}
		if x.Status == impl.EsCom {
			reached = x.Deps
		}
		if x.Status == impl.EsCom && len(x.Deps) == 0 {
			parts = [][]int{{number}}
		}
		hasParts(t, "one", l, parts...)
		isReady(t, "one", l, number, len(parts) == 1)
		if got := impl.Reach(l, x.Id); !slices.Equal(got, reached) {
			t.Errorf("Reach of %+v is %v", l, got)
		}
	})
}

// The chapter looks at Id, Status, Seq and Deps only.
func TestGraphLooksAtNothingElse(t *testing.T) {
	l := linked([]int{0, 6}, []int{1, 0}, []int{6, 0}, []int{9, 1}, []int{12})
	want := [][]int{{0, 6}, {1}, {9}, {12}}
	for i, c := range append(validCmds(), impl.Cmd{}) {
		for at := range l {
			other := freshInsts(l)
			other[at].Cmd, other[at].Same = c, i%2 == 0
			hasParts(t, "another command", other, want...)
			other[at].Bal, other[at].VBal = 600, -1
			hasParts(t, "another ballot", other, want...)
			other[at].Bal = -1
			hasParts(t, "no ballot", other, want...)
		}
	}
	for i := range l {
		l[i].Cmd = impl.Cmd{}
	}
	hasParts(t, "only CmNoop", l, want...)
}

func TestReachOfNoCommittedInstance(t *testing.T) {
	l := linked([]int{0, 1}, []int{1, 0}, []int{8, 0, 13}, []int{17, 8})
	for _, number := range []int{2, 7, 9, 13, 16} {
		reaches(t, "not in the list", l, number)
	}
	for _, id := range otherIds() {
		if got := impl.Reach(l, id); len(got) != 0 {
			t.Errorf("Reach of %v is %v", id, got)
		}
		if impl.Ready(l, id) {
			t.Errorf("%v is Ready", id)
		}
	}
	for number := range 18 {
		for what, other := range notCommitted(l, number) {
			reaches(t, what, other, number)
		}
	}
	reaches(t, "EsCom", l, 8, 0, 1, 13)
}

func TestReachWithoutDeps(t *testing.T) {
	l := linked([]int{0}, []int{5, 0}, []int{6}, []int{11, 5, 6, 17}, []int{17})
	reaches(t, "others depend on it", l, 0)
	reaches(t, "others depend on it", l, 6)
	reaches(t, "others depend on it", l, 17)
	reaches(t, "one", l, 5, 0)
	reaches(t, "several", l, 11, 0, 5, 6, 17)
}

// rotated are the numbers from 0 to 17 in an order in which neighbours are far
// from each other; step has no divisor in common with 18.
func rotated(step int) []int {
	var out []int
	for i := range 18 {
		out = append(out, i*step%18)
	}
	return out
}

// chain lets each of the numbers depend on the next one.
func chain(numbers []int) []impl.Inst {
	var rows [][]int
	for i, n := range numbers {
		rows = append(rows, append([]int{n}, numbers[i+1:min(i+2, len(numbers))]...))
	}
	return linked(rows...)
}

// ring lets the last of them depend on the first one, too.
func ring(numbers []int) []impl.Inst {
	return with(chain(numbers), numbers[len(numbers)-1], func(x *impl.Inst) { x.Deps = ids(numbers[0]) })
}

func sorted(numbers []int) []int {
	return slices.Sorted(slices.Values(numbers))
}

func TestReachOverAChain(t *testing.T) {
	for _, step := range []int{1, 5, 7, 11, 13, 17} {
		numbers := rotated(step)
		for size := 1; size <= 18; size++ {
			l := chain(numbers[:size])
			var wanted [][]int
			for i := range size {
				reaches(t, "chain", l, numbers[i], sorted(numbers[i+1:size])...)
				isReady(t, "chain", l, numbers[i], true)
				wanted = append([][]int{{numbers[i]}}, wanted...)
			}
			hasParts(t, "chain", l, wanted...)
		}
	}
}

func TestReachOnACycle(t *testing.T) {
	for _, step := range []int{1, 5, 7, 11, 13, 17} {
		numbers := rotated(step)
		for size := 2; size <= 18; size++ {
			l := ring(numbers[:size])
			all := sorted(numbers[:size])
			for _, number := range all {
				reaches(t, "cycle", l, number, all...)
				isReady(t, "cycle", l, number, true)
			}
			hasParts(t, "cycle", l, all)
		}
	}
}

func TestReachThatOnlyLeadsToACycle(t *testing.T) {
	for size := 2; size <= 16; size++ {
		for _, numbers := range [][]int{rotated(1), rotated(7), rotated(17)} {
			turn, first, second := numbers[:size], numbers[size], numbers[size+1]
			l := linked([]int{first, turn[0]}, []int{second, first, turn[size-1]})
			l = append(l, ring(turn)...)
			slices.SortFunc(l, func(a, b impl.Inst) int { return idNumber(a.Id) - idNumber(b.Id) })
			reaches(t, "leads to a cycle", l, first, sorted(turn)...)
			reaches(t, "leads to it in two ways", l, second, sorted(append([]int{first}, turn...))...)
			reaches(t, "on the cycle", l, turn[0], sorted(turn)...)
			hasParts(t, "a cycle first", l, sorted(turn), []int{first}, []int{second})
		}
	}
	reaches(t, "depends on all of a cycle", linked([]int{0, 1, 2}, []int{1, 2}, []int{2, 1}), 0, 1, 2)
}

func TestReachOverWhatIsNotCommitted(t *testing.T) {
	l := linked([]int{0, 10, 17}, []int{3, 17}, []int{10, 3, 4}, []int{17, 5})
	reaches(t, "all are EsCom", l, 0, 3, 4, 5, 10, 17)
	for what, other := range notCommitted(l, 10) {
		reaches(t, what, other, 0, 5, 10, 17)
	}
	for what, other := range notCommitted(l, 3) {
		reaches(t, what, other, 0, 3, 4, 5, 10, 17)
	}
	for what, other := range notCommitted(l, 17) {
		reaches(t, what, other, 0, 3, 4, 10, 17)
	}
	turn := ring([]int{2, 8, 14})
	for what, other := range notCommitted(turn, 8) {
		reaches(t, what+" on a cycle", other, 2, 8)
		reaches(t, what+" on a cycle", other, 8)
		reaches(t, what+" on a cycle", other, 14, 2, 8)
	}
	// What is EsPre or EsAcc depends on something that is reached only by it, or also in another way.
	for _, status := range []int{impl.EsPre, impl.EsAcc} {
		l := withStatus(linked([]int{0, 1}, []int{1, 2, 3}, []int{2}, []int{3, 0}, []int{4, 1, 3}), 1, status)
		reaches(t, "only by it", l, 0, 1)
		reaches(t, "in another way", l, 4, 0, 1, 3)
	}
}

func TestReachIsInOrder(t *testing.T) {
	// The greater Ids are found first in these, and some in several ways.
	l := linked([]int{0, 17}, []int{17, 12}, []int{12, 11}, []int{11, 6}, []int{6, 5, 7}, []int{5, 1}, []int{7, 2, 5, 16})
	reaches(t, "over all three Reps", l, 0, 1, 2, 5, 6, 7, 11, 12, 16, 17)
	reaches(t, "two ways", linked([]int{0, 1, 2}, []int{1, 3}, []int{2, 3}, []int{3, 4}), 0, 1, 2, 3, 4)
	reaches(t, "slots of one Rep, then the next Rep", linked([]int{9, 0, 5, 6, 8, 10, 12, 17}), 9, 0, 5, 6, 8, 10, 12, 17)
	for number := range 18 {
		others := slices.DeleteFunc(rotated(1), func(n int) bool { return n == number })
		reaches(t, "all others", linked(append([]int{number}, others...)), number, others...)
	}
}

func TestReadyFarAway(t *testing.T) {
	for _, step := range []int{1, 5, 7, 17} {
		numbers := rotated(step)
		l := chain(numbers)
		for at, number := range numbers {
			for what, other := range notCommitted(l, number) {
				var wanted [][]int
				for i, n := range numbers {
					isReady(t, what, other, n, i > at)
					if i > at {
						wanted = append([][]int{{n}}, wanted...)
					}
				}
				hasParts(t, what, other, wanted...)
			}
		}
	}
}

func TestReadyOfAnAbsentInstance(t *testing.T) {
	l := linked([]int{0, 1}, []int{2}, []int{3, 2, 17})
	isReady(t, "not in the list", l, 1, false)
	isReady(t, "not in the list", l, 17, false)
	isReady(t, "not in the list, nobody depends on it", l, 16, false)
	isReady(t, "depends on one that is absent", l, 0, false)
	isReady(t, "depends on one that is absent and one that is not", l, 3, false)
	isReady(t, "without Deps", l, 2, true)
	hasParts(t, "absent", l, []int{2})
}

func TestReadyOnACycle(t *testing.T) {
	turn := []int{3, 8, 12, 16}
	l := linked([]int{0, 3}, []int{3, 8}, []int{5}, []int{8, 5, 12}, []int{12, 16}, []int{16, 3, 7}, []int{7, 17}, []int{17})
	for _, number := range turn {
		isReady(t, "cycle", l, number, true)
	}
	hasParts(t, "cycle", l, []int{5}, []int{17}, []int{7}, turn, []int{0})
	for _, spoilt := range []int{3, 8, 12, 16, 5, 7, 17} {
		for what, other := range notCommitted(l, spoilt) {
			for _, number := range append([]int{0}, turn...) {
				isReady(t, what, other, number, false)
			}
			isReady(t, what, other, 5, spoilt != 5)
			isReady(t, what, other, 17, spoilt != 17)
			isReady(t, what, other, 7, spoilt != 17 && spoilt != 7)
		}
	}
	for what, other := range notCommitted(l, 0) {
		hasParts(t, what+" depends on the cycle", other, []int{5}, []int{17}, []int{7}, turn)
	}
}

func TestPartsWithNothingReady(t *testing.T) {
	l := linked([]int{0, 4}, []int{1, 0}, []int{6, 7}, []int{7, 6, 13}, []int{12, 1})
	hasParts(t, "two are absent", l)
	all := linked([]int{0}, []int{7}, []int{14})
	for _, status := range []int{impl.EsNone, impl.EsPre, impl.EsAcc} {
		hasParts(t, "none is EsCom", withStatus(withStatus(withStatus(all, 0, status), 7, status), 14, status))
	}
}

func TestPartsOfIndependentInstances(t *testing.T) {
	numbers := rotated(1)
	var rows [][]int
	for _, n := range numbers {
		rows = append(rows, []int{n})
	}
	hasParts(t, "all", linked(rows...), rows...)
	// Seq counts within a component only.
	descending := linked(rows...)
	for i := range descending {
		descending[i].Seq = 60 - i
	}
	hasParts(t, "all, with Seqs", descending, rows...)
	hasParts(t, "some", withSeqs(linked([]int{2}, []int{9}, []int{12}, []int{13}), 60, 0, 7, 7), []int{2}, []int{9}, []int{12}, []int{13})
}

func TestPartsSmallerLater(t *testing.T) {
	hasParts(t, "waits for the last one", linked([]int{0, 17}, []int{3}, []int{9}, []int{17}), []int{3}, []int{9}, []int{17}, []int{0})
	hasParts(t, "goes before what is possible already", linked([]int{0, 6}, []int{3}, []int{6}, []int{9}, []int{17}), []int{3}, []int{6}, []int{0}, []int{9}, []int{17})
	hasParts(t, "one opens several", linked([]int{0, 8}, []int{1, 8}, []int{2, 1}, []int{8}, []int{10}), []int{8}, []int{0}, []int{1}, []int{2}, []int{10})
	hasParts(t, "each opens the one before it", linked([]int{0, 5}, []int{5, 11}, []int{11, 12}, []int{12}, []int{13}), []int{12}, []int{11}, []int{5}, []int{0}, []int{13})
	hasParts(t, "two in turn", linked([]int{0, 4}, []int{1, 3}, []int{3}, []int{4}, []int{5}), []int{3}, []int{1}, []int{4}, []int{0}, []int{5})
	hasParts(t, "waits for two", linked([]int{0, 2, 16}, []int{2}, []int{4}, []int{16}, []int{17}), []int{2}, []int{4}, []int{16}, []int{0}, []int{17})
	// A component counts by its smallest Id, wherever that is in the order by Seq.
	turn := linked([]int{1, 17}, []int{17, 1}, []int{2}, []int{0})
	hasParts(t, "a component by its smallest Id", withSeqs(turn, 9, 8, 7, 6), []int{0}, []int{17, 1}, []int{2})
	late := linked([]int{1, 17}, []int{17, 1, 3}, []int{2}, []int{3}, []int{5}, []int{0, 5})
	hasParts(t, "a component that becomes possible later", withSeqs(late, 1, 5, 1, 1, 1, 4), []int{2}, []int{3}, []int{17, 1}, []int{5}, []int{0})
	hasParts(t, "two components that overlap", linked([]int{0, 9}, []int{9, 0}, []int{1, 8}, []int{8, 1}), []int{0, 9}, []int{1, 8})
	hasParts(t, "the second one first", linked([]int{0, 9}, []int{9, 0, 1}, []int{1, 8}, []int{8, 1}), []int{1, 8}, []int{0, 9})
}

func TestPartsBySeq(t *testing.T) {
	turn := ring([]int{2, 11, 6, 17, 13}) // in the order of the Ids: 2, 6, 11, 13, 17
	hasParts(t, "equal", withSeqs(turn, 7, 7, 7, 7, 7), []int{2, 6, 11, 13, 17})
	hasParts(t, "all 0", withSeqs(turn, 0, 0, 0, 0, 0), []int{2, 6, 11, 13, 17})
	hasParts(t, "all 60", withSeqs(turn, 60, 60, 60, 60, 60), []int{2, 6, 11, 13, 17})
	hasParts(t, "ascending", withSeqs(turn, 1, 2, 3, 4, 5), []int{2, 6, 11, 13, 17})
	hasParts(t, "descending", withSeqs(turn, 60, 45, 30, 15, 0), []int{17, 13, 11, 6, 2})
	hasParts(t, "mixed", withSeqs(turn, 3, 60, 0, 9, 2), []int{11, 17, 2, 13, 6})
	hasParts(t, "two equal", withSeqs(turn, 3, 2, 3, 2, 1), []int{17, 6, 13, 2, 11})
	hasParts(t, "the last is least", withSeqs(turn, 1, 1, 1, 1, 0), []int{17, 2, 6, 11, 13})
	hasParts(t, "the first is greatest", withSeqs(turn, 2, 1, 1, 1, 1), []int{6, 11, 13, 17, 2})
	// The Seq of another component says nothing.
	two := linked([]int{0, 1}, []int{1, 0}, []int{2, 3, 1}, []int{3, 2})
	hasParts(t, "two components", withSeqs(two, 60, 59, 2, 1), []int{1, 0}, []int{3, 2})
}

// Every order of four Seqs, also with equal ones.
func TestPartsByEverySeq(t *testing.T) {
	turn := ring([]int{15, 0, 9, 5})
	for code := range 256 {
		checkGraph(t, "four Seqs", withSeqs(turn, code%4, code/4%4, code/16%4, code/64))
	}
}

func TestPartsBesideWhatIsNotReady(t *testing.T) {
	l := linked([]int{0, 1}, []int{1, 0}, []int{2, 3}, []int{3, 2, 16}, []int{6}, []int{7, 3}, []int{8, 6, 0}, []int{12, 8, 7})
	hasParts(t, "absent", l, []int{0, 1}, []int{6}, []int{8})
	l = append(l, linked([]int{16, 17}, []int{17, 16})...)
	hasParts(t, "all there", l, []int{0, 1}, []int{6}, []int{8}, []int{16, 17}, []int{2, 3}, []int{7}, []int{12})
	for what, other := range notCommitted(l, 16) {
		hasParts(t, what, other, []int{0, 1}, []int{6}, []int{8})
	}
	for what, other := range notCommitted(l, 0) {
		hasParts(t, what, other, []int{6}, []int{16, 17}, []int{2, 3}, []int{7})
	}
	for what, other := range notCommitted(l, 6) {
		hasParts(t, what, other, []int{0, 1}, []int{16, 17}, []int{2, 3}, []int{7})
	}
	for what, other := range notCommitted(l, 12) {
		hasParts(t, what, other, []int{0, 1}, []int{6}, []int{8}, []int{16, 17}, []int{2, 3}, []int{7})
	}
}

func TestACycleInsideACycle(t *testing.T) {
	// 0, 1, 2 and 3 in a circle, and 1 and 2 in one of their own.
	l := linked([]int{0, 1}, []int{1, 2}, []int{2, 1, 3}, []int{3, 0})
	hasParts(t, "inner", l, []int{0, 1, 2, 3})
	for number := range 4 {
		reaches(t, "inner", l, number, 0, 1, 2, 3)
	}
	hasParts(t, "by Seq", withSeqs(l, 4, 1, 3, 2), []int{1, 3, 2, 0})
	// Without the way back the inner one remains.
	open := with(l, 3, func(x *impl.Inst) { x.Deps = nil })
	hasParts(t, "the outer one is open", open, []int{3}, []int{1, 2}, []int{0})
	reaches(t, "the outer one is open", open, 0, 1, 2, 3)
	reaches(t, "the outer one is open", open, 1, 1, 2, 3)
	// Three in each other: 7 and 8 in 6 to 9, and these in 5 to 10.
	three := linked([]int{5, 6}, []int{6, 7}, []int{7, 8}, []int{8, 7, 9}, []int{9, 6, 10}, []int{10, 5})
	hasParts(t, "three", three, []int{5, 6, 7, 8, 9, 10})
	middle := with(three, 10, func(x *impl.Inst) { x.Deps = nil })
	hasParts(t, "the outermost one is open", middle, []int{10}, []int{6, 7, 8, 9}, []int{5})
	inner := with(middle, 9, func(x *impl.Inst) { x.Deps = ids(10) })
	hasParts(t, "only the inmost one", inner, []int{10}, []int{9}, []int{7, 8}, []int{6}, []int{5})
	for number := 5; number <= 10; number++ {
		for what, other := range notCommitted(three, number) {
			hasParts(t, what, other)
		}
	}
}

func TestTwoCyclesThatShareOneInstance(t *testing.T) {
	l := linked([]int{0, 8}, []int{3, 0}, []int{8, 3, 12}, []int{12, 17}, []int{17, 8})
	hasParts(t, "one shared", l, []int{0, 3, 8, 12, 17})
	hasParts(t, "by Seq", withSeqs(l, 9, 8, 7, 1, 2), []int{12, 17, 8, 3, 0})
	for _, number := range []int{0, 3, 8, 12, 17} {
		reaches(t, "one shared", l, number, 0, 3, 8, 12, 17)
		for what, other := range notCommitted(l, number) {
			hasParts(t, what, other)
		}
	}
	// One of the cycles is open: what it leads to comes first.
	hasParts(t, "only the first one", with(l, 17, func(x *impl.Inst) { x.Deps = nil }), []int{17}, []int{12}, []int{0, 3, 8})
	hasParts(t, "only the second one", with(l, 0, func(x *impl.Inst) { x.Deps = nil }), []int{0}, []int{3}, []int{8, 12, 17})
	// Three cycles through one instance.
	hasParts(t, "three", linked([]int{0, 1, 6, 12}, []int{1, 0}, []int{6, 7}, []int{7, 0}, []int{12, 0}), []int{0, 1, 6, 7, 12})
}

func TestTwoCyclesThatShareSeveralInstances(t *testing.T) {
	// 4, 5, 6 and 13 in a circle, and 4, 5, 6, 9 and 10.
	l := linked([]int{4, 5}, []int{5, 6}, []int{6, 9, 13}, []int{9, 10}, []int{10, 4}, []int{13, 4})
	hasParts(t, "three shared", l, []int{4, 5, 6, 9, 10, 13})
	hasParts(t, "by Seq", withSeqs(l, 1, 6, 2, 5, 3, 4), []int{4, 6, 10, 13, 9, 5})
	hasParts(t, "only one of them", with(l, 10, func(x *impl.Inst) { x.Deps = nil }), []int{10}, []int{9}, []int{4, 5, 6, 13})
	hasParts(t, "only the other one", with(l, 13, func(x *impl.Inst) { x.Deps = nil }), []int{13}, []int{4, 5, 6, 9, 10})
	for _, number := range []int{4, 5, 6, 9, 10, 13} {
		reaches(t, "three shared", l, number, 4, 5, 6, 9, 10, 13)
		for what, other := range notCommitted(l, number) {
			hasParts(t, what, other)
		}
	}
	// They share two, and go through them in both directions.
	hasParts(t, "in both directions", linked([]int{0, 1}, []int{1, 0, 2}, []int{2, 1, 3}, []int{3, 2}), []int{0, 1, 2, 3})
}

func TestCycleThatDependsOnAnother(t *testing.T) {
	l := linked([]int{0, 6}, []int{6, 0, 12}, []int{12, 13}, []int{13, 12})
	hasParts(t, "the greater one first", l, []int{12, 13}, []int{0, 6})
	reaches(t, "on the first one", l, 0, 0, 6, 12, 13)
	reaches(t, "on the other one", l, 12, 12, 13)
	hasParts(t, "the smaller one first", linked([]int{0, 6}, []int{6, 0}, []int{12, 13, 6}, []int{13, 12}), []int{0, 6}, []int{12, 13})
	hasParts(t, "by all ways", linked([]int{0, 1, 2, 3}, []int{1, 0, 2, 3}, []int{2, 3}, []int{3, 2}), []int{2, 3}, []int{0, 1})
	hasParts(t, "over another instance", linked([]int{0, 1, 9}, []int{1, 0}, []int{2, 3}, []int{3, 2}, []int{9, 2}), []int{2, 3}, []int{9}, []int{0, 1})
	for what, other := range notCommitted(l, 13) {
		hasParts(t, what, other)
	}
	for what, other := range notCommitted(l, 0) {
		hasParts(t, what, other, []int{12, 13})
	}
	// Seqs that would have it the other way round.
	hasParts(t, "Seqs", withSeqs(l, 1, 0, 60, 59), []int{13, 12}, []int{6, 0})
}

func TestChainOfCycles(t *testing.T) {
	for _, step := range []int{1, 5, 7, 11, 13, 17} {
		numbers := rotated(step)
		var rows, wanted [][]int
		for i := 0; i < 18; i += 3 {
			a, b, c := numbers[i], numbers[i+1], numbers[i+2]
			row := []int{c, a}
			if i+3 < 18 {
				row = append(row, numbers[i+4])
			}
			rows = append(rows, []int{a, b}, []int{b, c}, row)
			wanted = append([][]int{sorted([]int{a, b, c})}, wanted...)
		}
		l := linked(rows...)
		hasParts(t, "chain of cycles", l, wanted...)
		for at, row := range wanted {
			for what, other := range notCommitted(l, row[1]) {
				hasParts(t, what, other, wanted[:at]...)
			}
		}
		closed := with(l, numbers[17], func(x *impl.Inst) {
			x.Deps = wantOfAll(func(id impl.Id) bool { return id == ids(numbers[0])[0] || id == ids(numbers[15])[0] })
		})
		hasParts(t, "circle of cycles", closed, rotated(1))
	}
}

// fully lets each instance depend on all others that wanted names.
func fully(wanted func(id int, dep int) bool) []impl.Inst {
	var rows [][]int
	for number := range 18 {
		row := []int{number}
		for dep := range 18 {
			if dep != number && wanted(number, dep) {
				row = append(row, dep)
			}
		}
		rows = append(rows, row)
	}
	return linked(rows...)
}

func TestGreatestLists(t *testing.T) {
	all := rotated(1)
	var single, back [][]int
	for _, n := range all {
		single, back = append(single, []int{n}), append([][]int{{n}}, back...)
	}
	each := fully(func(int, int) bool { return true })
	hasParts(t, "each on all others", each, all)
	var seqs, descending []int
	for n := range 18 {
		seqs, descending = append(seqs, 60-n), append(descending, 17-n)
	}
	hasParts(t, "each on all others, by Seq", withSeqs(each, seqs...), descending)
	hasParts(t, "on all smaller", withSeqs(fully(func(id int, dep int) bool { return dep < id }), seqs...), single...)
	hasParts(t, "on all greater", fully(func(id int, dep int) bool { return dep > id }), back...)
	hasParts(t, "on all of its Rep and of smaller ones", fully(func(id int, dep int) bool { return dep/6 <= id/6 }), all[:6], all[6:12], all[12:])
	hasParts(t, "on all of its Rep and of greater ones", fully(func(id int, dep int) bool { return dep/6 >= id/6 }), all[12:], all[6:12], all[:6])
	hasParts(t, "on all of its Rep", fully(func(id int, dep int) bool { return dep/6 == id/6 }), all[:6], all[6:12], all[12:])
	hasParts(t, "on all of its Slot", fully(func(id int, dep int) bool { return dep%6 == id%6 }), []int{0, 6, 12}, []int{1, 7, 13}, []int{2, 8, 14}, []int{3, 9, 15}, []int{4, 10, 16}, []int{5, 11, 17})
	for number := range 18 {
		for what, other := range notCommitted(each, number) {
			hasParts(t, what, other)
		}
	}
}

// linksOf lets the first count of the numbers depend on all of them as code says,
// a bit for each.
func linksOf(numbers []int, count int, code int) []impl.Inst {
	var rows [][]int
	for i := range count {
		row := []int{numbers[i]}
		for _, dep := range slices.Delete(slices.Clone(numbers), i, i+1) {
			if code&1 == 1 {
				row = append(row, dep)
			}
			code >>= 1
		}
		rows = append(rows, row)
	}
	return linked(rows...)
}

// everyGraphOfThree are all ways in which three instances depend on each other and
// on one that is absent, with each of them absent, EsPre or EsCom.
func everyGraphOfThree(visit func(l []impl.Inst)) {
	numbers := []int{2, 6, 15, 11} // 11 is the one that is absent
	seqs := [][]int{{1, 1, 1}, {3, 2, 1}}
	for code := range 1 << 9 {
		for state := range 27 {
			l := withSeqs(linksOf(numbers, 3, code), seqs[state%2]...)
			for i, digit := range []int{state % 3, state / 3 % 3, state / 9} {
				if digit == 1 {
					l = withStatus(l, numbers[i], impl.EsPre)
				} else if digit == 2 {
					l = without(l, numbers[i])
				}
			}
			visit(l)
		}
	}
}

func TestEveryGraphOfThree(t *testing.T) {
	everyGraphOfThree(func(l []impl.Inst) { checkGraph(t, "three", l) })
}

func TestEveryGraphOfFour(t *testing.T) {
	for code := range 1 << 12 {
		checkGraph(t, "four", withSeqs(linksOf([]int{1, 5, 9, 13}, 4, code), code%3, code%5, code%2, code%4))
	}
}

// anyGraph is a valid list; most of it is EsCom, and it has few or many Deps.
func anyGraph(r *lcg) []impl.Inst {
	count, sparse, rare, maxSeq := 1+r.below(18), 1+r.below(14), 2+r.below(40), 1+r.below(61)
	there := allIds()
	for len(there) > count {
		at := r.below(len(there))
		there = slices.Delete(there, at, at+1)
	}
	var l []impl.Inst
	for _, id := range there {
		x := anyInst(r, id)
		if r.below(rare) != 0 {
			x.Status, x.Seq = impl.EsCom, r.below(maxSeq)
			x.Deps = wantOfAll(func(other impl.Id) bool {
				return other != id && r.below(sparse) == 0 && (slices.Contains(there, other) || r.below(rare) == 0)
			})
		}
		l = append(l, x)
	}
	return l
}

// graphKinds counts what a list has of what the chapter tells apart.
func graphKinds(seen map[string]int, l []impl.Inst) {
	g := plainGraphOf(l)
	parts, later := g.parts()
	count := func(what string, holds bool) {
		if holds {
			seen[what]++
		}
	}
	count("a smaller Id later", later > 0)
	count("several components", len(parts) > 1)
	count("no component, but EsCom", len(parts) == 0 && slices.Contains(g.committed[:], true))
	count("all are Ready", len(slices.Concat(parts...)) == len(l))
	count("some are Ready", len(parts) > 0 && len(slices.Concat(parts...)) < len(l))
	cycles := 0
	for _, part := range parts {
		if len(part) == 1 {
			continue
		}
		cycles++
		count("a cycle by Seq", !slices.IsSortedFunc(part, func(a, b impl.Id) int { return idNumber(a) - idNumber(b) }))
		count("a great cycle", len(part) > 8)
		outside := func(dep impl.Id) bool { return !slices.Contains(part, dep) }
		count("a cycle that depends on others", slices.ContainsFunc(part, func(id impl.Id) bool { return slices.ContainsFunc(g.deps[idNumber(id)], outside) }))
	}
	count("a cycle", cycles > 0)
	count("several cycles", cycles > 1)
}

func TestAnyGraph(t *testing.T) {
	seen := map[string]int{}
	for seed := range 6000 {
		r := lcg(seed + 12000)
		l := anyGraph(&r)
		checkGraph(t, "any", l)
		graphKinds(seen, l)
		if r.below(5) == 0 {
			at := r.below(len(l))
			l[at] = spoil(&r, l[at])
			checkGraph(t, "spoilt", l)
		}
	}
	haveSeen(t, seen, 100, "a smaller Id later", "several components", "no component, but EsCom", "all are Ready", "some are Ready",
		"a cycle", "several cycles", "a cycle by Seq", "a great cycle", "a cycle that depends on others")
}

// listsOfNodes are the lists of the nodes of so many long plays: here cycles come
// about as they do when several nodes propose at once.
func listsOfNodes(t *testing.T, plays int, seed int) [][]impl.Inst {
	t.Helper()
	var lists [][]impl.Inst
	for play := range plays {
		r := lcg(play + seed)
		x := newThree(play%4 == 3)
		for range 250 {
			x.act(t, &r)
		}
		for _, n := range x.nodes {
			lists = append(lists, n.Insts)
		}
	}
	return lists
}

// haveSeen tells that each of these occurs at least so often.
func haveSeen(t *testing.T, seen map[string]int, least int, wanted ...string) {
	t.Helper()
	for _, what := range wanted {
		if seen[what] < least {
			t.Errorf("%q occurs in %d lists", what, seen[what])
		}
	}
}

func TestGraphsOfNodes(t *testing.T) {
	seen := map[string]int{}
	for _, l := range listsOfNodes(t, 60, 7000) {
		checkGraph(t, "a node", l)
		graphKinds(seen, l)
	}
	haveSeen(t, seen, 1, "several components", "some are Ready", "a cycle", "a smaller Id later")
}

// deliver gives each of these messages once, whatever comes of it, also those that
// are sent meanwhile.
func deliver(x impl.ENet, wanted func(impl.EMsg) bool) impl.ENet {
	for at := 0; at < len(x.Pool); at++ {
		if !wanted(x.Pool[at]) {
			continue
		}
		if next, done := impl.ENetDo(x, giveAct(at)); done {
			x = next
		}
	}
	return x
}

// Two nodes propose at once, and each command depends on the other.
func TestGraphOfCommandsThatDependOnEachOther(t *testing.T) {
	x := impl.ENetNew()
	for _, a := range []impl.EAct{offerAct(0, readOf("a")), offerAct(1, commitOf("a")), offerAct(2, readOf("b"))} {
		x = mustDo(t, "offer", x, a)
	}
	for _, n := range deliver(x, func(impl.EMsg) bool { return true }).Nodes {
		hasParts(t, "a node", n.Insts, []int{0, 6}, []int{12})
		reaches(t, "a node", n.Insts, 0, 0, 6)
	}
}

func graphLists() [][]impl.Inst {
	lists := append(validInstLists(), invalidInstLists()...)
	lists = append(lists, ring(rotated(5)), chain(rotated(7)), fully(func(int, int) bool { return true }), fully(func(id int, dep int) bool { return dep < id }),
		linked([]int{0, 6}, []int{3, 17}, []int{6, 0}, []int{9, 6}, []int{12}, []int{15, 1}))
	for seed := range 100 {
		r := lcg(seed + 55)
		lists = append(lists, anyGraph(&r))
	}
	return lists
}

// graphResults are all that the functions return; ready is in the order of the
// Ids.
type graphResults struct {
	reach [][]impl.Id
	ready []bool
	parts [][]impl.Id
	order []impl.Id
}

func graphCalls(l []impl.Inst) graphResults {
	var out graphResults
	for _, id := range append(allIds(), impl.Id{}) {
		out.reach, out.ready = append(out.reach, impl.Reach(l, id)), append(out.ready, impl.Ready(l, id))
	}
	out.parts, out.order = impl.Parts(l), impl.ExecOrder(l)
	return out
}

func (a graphResults) equals(b graphResults) bool {
	return equalParts(a.reach, b.reach) && slices.Equal(a.ready, b.ready) && equalParts(a.parts, b.parts) && slices.Equal(a.order, b.order)
}

func (a graphResults) lists() [][]impl.Id {
	return slices.Concat(a.reach, a.parts, [][]impl.Id{a.order})
}

// leavesAlone tells that the calls change no list, not even where it has room.
func leavesAlone(t *testing.T, lists [][]impl.Inst, calls func([]impl.Inst)) {
	t.Helper()
	for _, l := range lists {
		n := roomyNode(impl.ENode{Insts: l})
		want := wholeNode(n)
		calls(n.Insts)
		if got := wholeNode(n); !reflect.DeepEqual(got, want) {
			t.Errorf("%+v has become %+v", want.Insts, got.Insts)
		}
	}
}

// keepsNoState tells that the calls have the same results later, in another order.
func keepsNoState[R any](t *testing.T, lists [][]impl.Inst, calls func([]impl.Inst) R, equal func(R, R) bool) {
	t.Helper()
	var first []R
	for _, l := range lists {
		first = append(first, calls(l))
	}
	for i, l := range slices.Backward(lists) {
		if again := calls(l); !equal(again, first[i]) {
			t.Errorf("%+v has other results later: %+v, %+v", l, again, first[i])
		}
	}
}

func TestGraphFunctionsChangeNoArgument(t *testing.T) {
	leavesAlone(t, graphLists(), func(l []impl.Inst) { graphCalls(l) })
}

func TestGraphFunctionsShareNoMemory(t *testing.T) {
	for _, given := range graphLists() {
		l := freshInsts(given)
		first, second := graphCalls(l), graphCalls(l)
		all := slices.Concat(first.lists(), second.lists())
		for _, x := range l {
			all = append(all, x.Deps)
		}
		listsApart(t, "results", all)
		listsApart(t, "Parts", [][][]impl.Id{first.parts, second.parts})
		want := graphCalls(freshInsts(given))
		for _, part := range first.lists() {
			for i := range part {
				part[i] = idOf(8, 8)
			}
			// What is added goes into unused capacity, if there is some.
			_ = append(part, slices.Repeat([]impl.Id{idOf(7, 7)}, cap(part)-len(part))...)
		}
		clear(first.parts)
		if !equalInstLists(l, given) || !second.equals(want) {
			t.Errorf("a change of results changes %+v or %+v", l, second)
		}
	}
}

// All Deps of the argument are one list.
func TestGraphFunctionsSeparateWhatAnArgumentShares(t *testing.T) {
	deps := ids(3, 9)
	l := linked([]int{0}, []int{1}, []int{3}, []int{9}, []int{14})
	for i := range l {
		if !slices.Contains(deps, l[i].Id) {
			l[i].Deps = deps
		}
	}
	got := graphCalls(l)
	listsApart(t, "results", append(got.lists(), deps))
	hasParts(t, "one list", l, []int{3}, []int{9}, []int{0}, []int{1}, []int{14})
}

func TestGraphFunctionsKeepNoState(t *testing.T) {
	keepsNoState(t, graphLists(), graphCalls, graphResults.equals)
}
