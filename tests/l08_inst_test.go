package tests

import (
	"math"
	"reflect"
	"slices"
	"strings"
	"testing"
	"unsafe"

	"loop.example/g00954/impl"
)

func idOf(rep int, slot int) impl.Id {
	return impl.Id{Rep: rep, Slot: slot}
}

// allIds are the 18 valid Ids in their order.
func allIds() []impl.Id {
	var out []impl.Id
	for rep := range 3 {
		for slot := 1; slot <= 6; slot++ {
			out = append(out, idOf(rep, slot))
		}
	}
	return out
}

// otherIds are not valid; some are near to one that is.
func otherIds() []impl.Id {
	out := []impl.Id{{}, idOf(-1, 1), idOf(3, 1), idOf(0, 0), idOf(0, 7), idOf(2, 0), idOf(2, 7), idOf(-1, 6), idOf(3, 6), idOf(3, 0), idOf(-1, 7), idOf(0, -1), idOf(1, -6), idOf(-2, -3)}
	for _, n := range []int{math.MinInt, math.MinInt32, -1 << 32, 1 << 32, 1<<32 + 1, math.MaxInt32, math.MaxInt - 1, math.MaxInt} {
		out = append(out, idOf(n, 1), idOf(1, n), idOf(n, n))
	}
	return out
}

// idNumber is the place of a valid Id among all of them, from 0, or -1.
func idNumber(id impl.Id) int {
	if id.Rep < 0 || id.Rep > 2 || id.Slot < 1 || id.Slot > 6 {
		return -1
	}
	return id.Rep*6 + id.Slot - 1
}

func wantIdsOk(l []impl.Id) bool {
	last := -1
	for _, id := range l {
		if idNumber(id) <= last {
			return false
		}
		last = idNumber(id)
	}
	return true
}

// wantInstOk goes through the conditions in the order of the chapter.
func wantInstOk(x impl.Inst) bool {
	if idNumber(x.Id) < 0 || x.Bal < -1 || x.Bal > 600 || x.VBal < -1 || x.VBal > x.Bal || x.Status < 0 || x.Status > 3 {
		return false
	}
	if !wantCmdOk(x.Cmd) || x.Seq < 0 || x.Seq > 60 || !wantIdsOk(x.Deps) || slices.Contains(x.Deps, x.Id) {
		return false
	}
	unset := impl.Inst{Id: x.Id, Bal: x.Bal, VBal: -1}
	return x.Status != 0 || equalInsts(x, unset)
}

func wantInstsOk(l []impl.Inst) bool {
	var ids []impl.Id
	for _, x := range l {
		if !wantInstOk(x) {
			return false
		}
		ids = append(ids, x.Id)
	}
	return wantIdsOk(ids)
}

// wantOfAll picks from the valid Ids, which are in order already.
func wantOfAll(wanted func(impl.Id) bool) []impl.Id {
	return slices.DeleteFunc(allIds(), func(id impl.Id) bool { return !wanted(id) })
}

func wantJoin(a []impl.Id, b []impl.Id) []impl.Id {
	if !wantIdsOk(a) || !wantIdsOk(b) {
		return nil
	}
	return wantOfAll(func(id impl.Id) bool { return slices.Contains(a, id) || slices.Contains(b, id) })
}

func wantClash(a impl.Cmd, b impl.Cmd) bool {
	if !wantCmdOk(a) || !wantCmdOk(b) || a.Kind == 0 || b.Kind == 0 {
		return false
	}
	return a.Kind == 7 || b.Kind == 7 || a.Set == b.Set
}

func wantAttrs(l []impl.Inst, id impl.Id, c impl.Cmd) (int, []impl.Id) {
	if !wantInstsOk(l) {
		return 0, nil
	}
	seq := 1
	deps := wantOfAll(func(other impl.Id) bool {
		for _, x := range l {
			if x.Id == other && other != id && x.Status != 0 && wantClash(c, x.Cmd) {
				seq = max(seq, x.Seq+1)
				return true
			}
		}
		return false
	})
	return seq, deps
}

func wantInstAt(l []impl.Inst, id impl.Id) impl.Inst {
	at := slices.IndexFunc(l, func(x impl.Inst) bool { return x.Id == id })
	if at < 0 {
		return impl.Inst{Id: id, Bal: -1, VBal: -1}
	}
	return l[at]
}

func wantInstPut(l []impl.Inst, x impl.Inst) []impl.Inst {
	if !wantInstsOk(l) {
		return nil
	}
	if !wantInstOk(x) {
		return l
	}
	out := slices.DeleteFunc(slices.Clone(l), func(y impl.Inst) bool { return y.Id == x.Id })
	out = append(out, x)
	slices.SortFunc(out, func(a, b impl.Inst) int { return idNumber(a.Id) - idNumber(b.Id) })
	return out
}

func equalInsts(a impl.Inst, b impl.Inst) bool {
	same := equalCmds(a.Cmd, b.Cmd) && slices.Equal(a.Deps, b.Deps)
	a.Cmd, b.Cmd, a.Deps, b.Deps = impl.Cmd{}, impl.Cmd{}, nil, nil
	return same && reflect.DeepEqual(a, b)
}

func equalInstLists(a []impl.Inst, b []impl.Inst) bool {
	return slices.EqualFunc(a, b, equalInsts)
}

// freshInst shares no memory with x, not even in its texts.
func freshInst(x impl.Inst) impl.Inst {
	x.Deps = slices.Clone(x.Deps)
	x.Cmd.Set, x.Cmd.Name, x.Cmd.Tag = strings.Clone(x.Cmd.Set), strings.Clone(x.Cmd.Name), strings.Clone(x.Cmd.Tag)
	x.Cmd.Chunks = slices.Clone(x.Cmd.Chunks)
	for i, s := range x.Cmd.Chunks {
		x.Cmd.Chunks[i] = strings.Clone(s)
	}
	return x
}

func freshInsts(l []impl.Inst) []impl.Inst {
	var out []impl.Inst
	for _, x := range l {
		out = append(out, freshInst(x))
	}
	return out
}

func checkIdsOk(t *testing.T, what string, l []impl.Id) {
	t.Helper()
	if got := impl.IdsOk(l); got != wantIdsOk(l) {
		t.Fatalf("%s: IdsOk(%v) = %v", what, l, got)
	}
}

func checkInstsOk(t *testing.T, what string, l []impl.Inst) {
	t.Helper()
	if got := impl.InstsOk(l); got != wantInstsOk(l) {
		t.Fatalf("%s: InstsOk(%+v) = %v", what, l, got)
	}
}

// checkInst tells of one instance whether it is valid, alone, in a list, and
// for InstPut.
func checkInst(t *testing.T, what string, x impl.Inst, valid bool) {
	t.Helper()
	if wantInstOk(x) != valid {
		t.Fatalf("%s: the second reading takes %+v for %v", what, x, !valid)
	}
	if got := impl.InstsOk([]impl.Inst{x}); got != valid {
		t.Fatalf("%s: InstsOk of %+v = %v", what, x, got)
	}
	first, last := impl.Inst{Id: idOf(0, 1), Bal: -1, VBal: -1}, impl.Inst{Id: idOf(2, 6), Bal: 0, VBal: 0, Status: impl.EsCom}
	if x.Id != first.Id && x.Id != last.Id {
		if got := impl.InstsOk([]impl.Inst{first, x, last}); got != valid {
			t.Fatalf("%s: InstsOk with %+v in the middle = %v", what, x, got)
		}
	}
	tryInstPut(t, nil, x)
	tryInstPut(t, []impl.Inst{first, last}, x)
	tryInstPut(t, []impl.Inst{first, setInst(idOf(1, 2)), last}, x)
}

func checkJoin(t *testing.T, a []impl.Id, b []impl.Id) []impl.Id {
	t.Helper()
	beforeA, beforeB, want := slices.Clone(a), slices.Clone(b), wantJoin(a, b)
	got, back := impl.JoinIds(a, b), impl.JoinIds(b, a)
	if !slices.Equal(got, want) || !slices.Equal(back, want) {
		t.Fatalf("JoinIds of %v and %v: %v and %v, want %v", a, b, got, back, want)
	}
	if !slices.Equal(a, beforeA) || !slices.Equal(b, beforeB) {
		t.Fatalf("JoinIds of %v and %v changes them to %v and %v", beforeA, beforeB, a, b)
	}
	return got
}

func checkAttrs(t *testing.T, l []impl.Inst, id impl.Id, c impl.Cmd) {
	t.Helper()
	before := freshInsts(l)
	seq, deps := impl.AttrsOf(l, id, c)
	wantSeq, wantDeps := wantAttrs(l, id, c)
	if seq != wantSeq || !slices.Equal(deps, wantDeps) {
		t.Fatalf("AttrsOf(%+v, %v, %+v) = %d, %v, want %d, %v", l, id, c, seq, deps, wantSeq, wantDeps)
	}
	if !equalInstLists(l, before) {
		t.Fatalf("AttrsOf(%+v, %v, %+v): the list has become %+v", before, id, c, l)
	}
}

func checkInstAt(t *testing.T, l []impl.Inst, id impl.Id) {
	t.Helper()
	before := freshInsts(l)
	if got, want := impl.InstAt(l, id), wantInstAt(l, id); !equalInsts(got, want) {
		t.Fatalf("InstAt(%+v, %v) = %+v, want %+v", l, id, got, want)
	}
	if !equalInstLists(l, before) {
		t.Fatalf("InstAt(%+v, %v): the list has become %+v", before, id, l)
	}
}

// tryInstPut makes the call and holds it against the second reading of the
// chapter: the list remains valid, and the arguments are as before.
func tryInstPut(t *testing.T, l []impl.Inst, x impl.Inst) []impl.Inst {
	t.Helper()
	before, put := freshInsts(l), freshInst(x)
	got, want := impl.InstPut(l, x), wantInstPut(l, x)
	if !equalInstLists(got, want) {
		t.Fatalf("InstPut(%+v, %+v) = %+v, want %+v", before, put, got, want)
	}
	if !equalInstLists(l, before) || !equalInsts(x, put) {
		t.Fatalf("InstPut(%+v, %+v): the arguments have become %+v, %+v", before, put, l, x)
	}
	if !impl.InstsOk(got) {
		t.Fatalf("InstPut(%+v, %+v) = %+v, which is invalid", before, put, got)
	}
	return got
}

// setInst is an instance in which no field is zero.
func setInst(id impl.Id) impl.Inst {
	var deps []impl.Id
	for _, other := range []impl.Id{idOf(0, 1), idOf(1, 3), idOf(2, 2)} {
		if other != id {
			deps = append(deps, other)
		}
	}
	return impl.Inst{Id: id, Bal: 7, VBal: 4, Status: impl.EsPre, Cmd: validCmds()[5], Seq: 9, Deps: deps, Same: true}
}

// unsetInst is an instance of which only a ballot was seen.
func unsetInst(id impl.Id, bal int) impl.Inst {
	return impl.Inst{Id: id, Bal: bal, VBal: -1}
}

// plainInst is a committed one with what AttrsOf looks at.
func plainInst(id impl.Id, c impl.Cmd, seq int) impl.Inst {
	return impl.Inst{Id: id, Bal: id.Rep, VBal: id.Rep, Status: impl.EsCom, Cmd: c, Seq: seq}
}

func readOf(set string) impl.Cmd {
	return impl.Cmd{Kind: impl.CmRead, Client: 1, No: 1, Set: set}
}

func listOf() impl.Cmd {
	return impl.Cmd{Kind: impl.CmList, Client: 2, No: 3}
}

// validInstLists are empty, with one instance, with some of each Status and of
// each kind of command, and full.
func validInstLists() [][]impl.Inst {
	ids := allIds()
	var full, kinds, unset []impl.Inst
	for i, id := range ids {
		full = append(full, impl.Inst{Id: id, Bal: 600 - i, VBal: i, Status: 1 + i%3, Cmd: readOf("s"), Seq: 60 - i, Deps: wantOfAll(func(other impl.Id) bool { return other != id }), Same: i%2 == 0})
		unset = append(unset, unsetInst(id, i*30-1))
	}
	for i, c := range validCmds() {
		kinds = append(kinds, impl.Inst{Id: ids[i+1], Bal: i, VBal: i - 1, Status: 1 + i%3, Cmd: c, Seq: i * 4, Deps: []impl.Id{idOf(0, 1)}})
	}
	mixed := []impl.Inst{setInst(idOf(0, 2)), unsetInst(idOf(0, 6), 600), setInst(idOf(1, 1)), setInst(idOf(2, 4)), unsetInst(idOf(2, 5), -1)}
	mixed[2].Cmd, mixed[2].Seq, mixed[2].Status = listOf(), 60, impl.EsAcc
	mixed[3].Cmd, mixed[3].Status, mixed[3].Same = impl.Cmd{}, impl.EsCom, false
	return [][]impl.Inst{
		nil,
		{},
		{unsetInst(idOf(0, 1), -1)},
		{unsetInst(idOf(2, 6), 600)},
		{setInst(idOf(1, 3))},
		{plainInst(idOf(0, 6), readOf("a"), 0), plainInst(idOf(1, 1), readOf("a"), 60)},
		mixed,
		kinds,
		unset,
		full,
	}
}

func invalidInstLists() [][]impl.Inst {
	a, b := setInst(idOf(0, 2)), setInst(idOf(1, 1))
	with := func(change func(*impl.Inst)) []impl.Inst {
		x := setInst(idOf(2, 5))
		change(&x)
		return []impl.Inst{a, b, x}
	}
	return [][]impl.Inst{
		{{}},
		{a, a},
		{b, a},
		{a, b, b},
		{a, b, a},
		{unsetInst(idOf(0, 1), 3), unsetInst(idOf(0, 1), 4)},
		{unsetInst(idOf(0, 7), 3)},
		{unsetInst(idOf(-1, 1), 3)},
		{unsetInst(idOf(3, 1), 3), a},
		with(func(x *impl.Inst) { x.Id = idOf(3, 5) }),
		with(func(x *impl.Inst) { x.Bal = 601 }),
		with(func(x *impl.Inst) { x.Bal = -2 }),
		with(func(x *impl.Inst) { x.VBal = 8 }),
		with(func(x *impl.Inst) { x.VBal = -2 }),
		with(func(x *impl.Inst) { x.Status = 4 }),
		with(func(x *impl.Inst) { x.Status = -1 }),
		with(func(x *impl.Inst) { x.Status = impl.EsNone }),
		with(func(x *impl.Inst) { x.Cmd.Set = "A" }),
		with(func(x *impl.Inst) { x.Seq = 61 }),
		with(func(x *impl.Inst) { x.Seq = -1 }),
		with(func(x *impl.Inst) { x.Deps = []impl.Id{idOf(2, 5)} }),
		with(func(x *impl.Inst) { x.Deps = []impl.Id{idOf(1, 1), idOf(0, 1)} }),
		with(func(x *impl.Inst) { x.Deps = []impl.Id{idOf(1, 1), idOf(1, 1)} }),
		with(func(x *impl.Inst) { x.Deps = []impl.Id{idOf(1, 0)} }),
	}
}

func TestInstConstants(t *testing.T) {
	got := []int{impl.Reps, impl.MaxSlot, impl.MaxBal, impl.MaxSeq, impl.EsNone, impl.EsPre, impl.EsAcc, impl.EsCom}
	if !slices.Equal(got, []int{3, 6, 600, 60, 0, 1, 2, 3}) {
		t.Error("constants", got)
	}
}

func TestIdsOkOfOneId(t *testing.T) {
	if !impl.IdsOk(nil) || !impl.IdsOk([]impl.Id{}) {
		t.Error("an empty list is invalid")
	}
	for rep, want := range map[int]bool{-2: false, -1: false, 0: true, 1: true, 2: true, 3: false, 4: false} {
		if impl.IdsOk([]impl.Id{idOf(rep, 1)}) != want || impl.IdsOk([]impl.Id{idOf(rep, 6)}) != want {
			t.Errorf("Rep %d: want %v", rep, want)
		}
	}
	for slot, want := range map[int]bool{-1: false, 0: false, 1: true, 2: true, 5: true, 6: true, 7: false, 8: false} {
		if impl.IdsOk([]impl.Id{idOf(0, slot)}) != want || impl.IdsOk([]impl.Id{idOf(2, slot)}) != want {
			t.Errorf("Slot %d: want %v", slot, want)
		}
	}
	for rep := -4; rep < 10; rep++ {
		for slot := -4; slot < 10; slot++ {
			checkIdsOk(t, "one", []impl.Id{idOf(rep, slot)})
		}
	}
	for _, a := range bigNumbers() {
		for _, b := range bigNumbers() {
			checkIdsOk(t, "big numbers", []impl.Id{idOf(a, b)})
		}
	}
}

func TestIdsOkOrder(t *testing.T) {
	for _, c := range []struct {
		first, second impl.Id
		want          bool
	}{
		{idOf(0, 1), idOf(0, 2), true},
		{idOf(0, 2), idOf(0, 1), false},
		{idOf(0, 1), idOf(0, 1), false},
		{idOf(0, 6), idOf(1, 1), true},
		{idOf(1, 1), idOf(0, 6), false},
		{idOf(1, 1), idOf(0, 2), false},
		{idOf(2, 3), idOf(1, 4), false},
		{idOf(0, 3), idOf(2, 3), true},
		{idOf(2, 3), idOf(0, 3), false},
		{idOf(2, 6), idOf(2, 6), false},
	} {
		if got := impl.IdsOk([]impl.Id{c.first, c.second}); got != c.want {
			t.Errorf("%v and then %v: %v", c.first, c.second, got)
		}
	}
	ids := append(allIds(), otherIds()[:14]...)
	for _, a := range ids {
		for _, b := range ids {
			checkIdsOk(t, "two", []impl.Id{a, b})
			for _, c := range ids {
				checkIdsOk(t, "three", []impl.Id{a, b, c})
			}
		}
	}
}

func TestIdsOkOfLongLists(t *testing.T) {
	all := allIds()
	if !impl.IdsOk(all) {
		t.Fatal("all Ids in order are invalid")
	}
	for i := range all {
		checkIdsOk(t, "without one", slices.Delete(allIds(), i, i+1))
		checkIdsOk(t, "from one on", all[i:])
		if impl.IdsOk(slices.Insert(allIds(), i, all[i])) {
			t.Errorf("%v twice", all[i])
		}
		if i > 0 {
			swapped := allIds()
			swapped[i-1], swapped[i] = swapped[i], swapped[i-1]
			if impl.IdsOk(swapped) {
				t.Errorf("%v and the next one are swapped", all[i-1])
			}
		}
		for _, other := range otherIds() {
			changed := allIds()
			changed[i] = other
			if impl.IdsOk(changed) || impl.IdsOk(slices.Insert(allIds(), i, other)) {
				t.Errorf("%v at %d", other, i)
			}
		}
	}
	for _, other := range otherIds() {
		if impl.IdsOk(append(allIds(), other)) {
			t.Errorf("%v at the end", other)
		}
	}
	if impl.IdsOk(slices.Repeat(allIds(), 2)) || impl.IdsOk(slices.Repeat(allIds(), 50000)) || impl.IdsOk(make([]impl.Id, 1<<20)) {
		t.Error("a long list is valid")
	}
}

func TestInstsOkId(t *testing.T) {
	for _, id := range allIds() {
		for _, x := range []impl.Inst{unsetInst(id, -1), unsetInst(id, 600), setInst(id), plainInst(id, readOf("a"), 1)} {
			checkInst(t, "Id", x, true)
		}
	}
	for _, id := range otherIds() {
		for _, x := range []impl.Inst{unsetInst(id, -1), unsetInst(id, 600), setInst(id)} {
			checkInst(t, "Id", x, false)
		}
	}
}

// eachStatus calls visit with valid instances of every Status that has values.
func eachStatus(visit func(impl.Inst)) {
	for status := impl.EsPre; status <= impl.EsCom; status++ {
		for _, same := range []bool{false, true} {
			x := setInst(idOf(1, 2))
			x.Status, x.Same = status, same
			visit(x)
		}
	}
}

func TestInstsOkBallots(t *testing.T) {
	for bal, want := range map[int]bool{-3: false, -2: false, -1: true, 0: true, 1: true, 599: true, 600: true, 601: false, 602: false} {
		checkInst(t, "Bal of EsNone", unsetInst(idOf(1, 2), bal), want)
		eachStatus(func(x impl.Inst) {
			x.Bal, x.VBal = bal, -1
			checkInst(t, "Bal", x, want)
			x.VBal = bal
			checkInst(t, "Bal and VBal", x, want)
		})
	}
	for _, bal := range []int{-1, 0, 1, 5, 599, 600} {
		for vbal, want := range map[int]bool{-3: false, -2: false, -1: true, bal: true, bal + 1: false, bal + 2: false, 601: false} {
			checkInst(t, "VBal of EsNone", impl.Inst{Id: idOf(1, 2), Bal: bal, VBal: vbal}, want && vbal == -1)
			eachStatus(func(x impl.Inst) {
				x.Bal, x.VBal = bal, vbal
				checkInst(t, "VBal", x, want)
			})
		}
	}
	for _, bal := range bigNumbers() {
		checkInst(t, "big Bal of EsNone", unsetInst(idOf(1, 2), bal), bal >= -1 && bal <= 600)
		for _, vbal := range bigNumbers() {
			eachStatus(func(x impl.Inst) {
				x.Bal, x.VBal = bal, vbal
				checkInst(t, "big numbers", x, -1 <= vbal && vbal <= bal && bal <= 600)
			})
		}
	}
}

func TestInstsOkStatus(t *testing.T) {
	for status, want := range map[int]bool{-2: false, -1: false, 0: true, 1: true, 2: true, 3: true, 4: false, 5: false} {
		x := unsetInst(idOf(1, 2), 3)
		x.Status = status
		checkInst(t, "Status", x, want)
		y := setInst(idOf(1, 2))
		y.Status = status
		checkInst(t, "Status with values", y, want && status != 0)
	}
	for _, status := range bigNumbers() {
		y := setInst(idOf(1, 2))
		y.Status = status
		checkInst(t, "big Status", y, 1 <= status && status <= 3)
	}
}

func TestInstsOkCmd(t *testing.T) {
	for _, c := range validCmds() {
		eachStatus(func(x impl.Inst) {
			x.Cmd = c
			checkInst(t, "Cmd", x, true)
		})
		y := unsetInst(idOf(1, 2), 5)
		y.Cmd = c
		checkInst(t, "Cmd of EsNone", y, c.Kind == impl.CmNoop)
	}
	for _, c := range invalidCmds() {
		eachStatus(func(x impl.Inst) {
			x.Cmd = c
			checkInst(t, "invalid Cmd", x, false)
		})
		y := unsetInst(idOf(1, 2), 5)
		y.Cmd = c
		checkInst(t, "invalid Cmd of EsNone", y, false)
	}
	x := unsetInst(idOf(1, 2), 5)
	x.Cmd.Chunks, x.Deps = []string{}, []impl.Id{}
	checkInst(t, "empty lists", x, true)
}

func TestInstsOkSeq(t *testing.T) {
	for seq, want := range map[int]bool{-2: false, -1: false, 0: true, 1: true, 59: true, 60: true, 61: false, 62: false} {
		eachStatus(func(x impl.Inst) {
			x.Seq = seq
			checkInst(t, "Seq", x, want)
		})
		y := unsetInst(idOf(1, 2), 5)
		y.Seq = seq
		checkInst(t, "Seq of EsNone", y, seq == 0)
	}
	for _, seq := range bigNumbers() {
		eachStatus(func(x impl.Inst) {
			x.Seq = seq
			checkInst(t, "big Seq", x, 0 <= seq && seq <= 60)
		})
	}
}

// depsCase is a list of dependencies of the Id {1, 2}, and whether it is valid.
type depsCase struct {
	what string
	deps []impl.Id
	want bool
}

func depsCases() []depsCase {
	own := idOf(1, 2)
	others := wantOfAll(func(id impl.Id) bool { return id != own })
	return []depsCase{
		{"nil", nil, true},
		{"empty", []impl.Id{}, true},
		{"one", []impl.Id{idOf(2, 6)}, true},
		{"ascending", []impl.Id{idOf(0, 5), idOf(1, 1), idOf(1, 3)}, true},
		{"all others", others, true},
		{"equal", []impl.Id{idOf(0, 5), idOf(0, 5)}, false},
		{"descending", []impl.Id{idOf(1, 1), idOf(0, 5)}, false},
		{"descending Slots", []impl.Id{idOf(0, 5), idOf(0, 4)}, false},
		{"an invalid Slot", []impl.Id{idOf(0, 7)}, false},
		{"an invalid Rep", []impl.Id{idOf(0, 1), idOf(3, 1)}, false},
		{"the zero Id", []impl.Id{{}}, false},
		{"great numbers", []impl.Id{idOf(1, 1), idOf(math.MaxInt, math.MinInt)}, false},
		{"the own Id", []impl.Id{own}, false},
		{"the own Id first", []impl.Id{own, idOf(1, 3)}, false},
		{"the own Id last", []impl.Id{idOf(0, 1), idOf(1, 1), own}, false},
		{"the own Id among others", []impl.Id{idOf(0, 1), own, idOf(2, 1)}, false},
		{"all", allIds(), false},
		{"a long list", slices.Repeat(others, 5000), false},
	}
}

func TestInstsOkDeps(t *testing.T) {
	own := idOf(1, 2)
	for _, c := range depsCases() {
		eachStatus(func(x impl.Inst) {
			x.Deps = c.deps
			checkInst(t, c.what, x, c.want)
		})
		y := unsetInst(own, 4)
		y.Deps = c.deps
		checkInst(t, c.what+", EsNone", y, len(c.deps) == 0)
	}
	for _, id := range append(allIds(), otherIds()...) {
		for _, dep := range append(allIds(), otherIds()...) {
			x := setInst(id)
			x.Deps = []impl.Id{dep}
			checkInst(t, "one", x, idNumber(id) >= 0 && idNumber(dep) >= 0 && id != dep)
		}
	}
}

func TestInstsOkOfEsNone(t *testing.T) {
	base := unsetInst(idOf(2, 3), 8)
	checkInst(t, "EsNone", base, true)
	for what, change := range map[string]func(*impl.Inst){
		"VBal": func(x *impl.Inst) { x.VBal = 0 },
		"Cmd":  func(x *impl.Inst) { x.Cmd = readOf("a") },
		"List": func(x *impl.Inst) { x.Cmd = listOf() },
		"Seq":  func(x *impl.Inst) { x.Seq = 1 },
		"Deps": func(x *impl.Inst) { x.Deps = []impl.Id{idOf(0, 1)} },
		"Same": func(x *impl.Inst) { x.Same = true },
	} {
		x := base
		change(&x)
		checkInst(t, what+" of EsNone", x, false)
		for status := impl.EsPre; status <= impl.EsCom; status++ {
			x.Status = status
			checkInst(t, what, x, true)
		}
	}
	for status := impl.EsPre; status <= impl.EsCom; status++ {
		// Nothing but Status tells these from one that is not set.
		checkInst(t, "without values", impl.Inst{Id: idOf(2, 3), Bal: -1, VBal: -1, Status: status}, true)
	}
	checkInst(t, "zero", impl.Inst{}, false)
	checkInst(t, "zero with an Id", impl.Inst{Id: idOf(0, 1)}, false)
}

func TestInstsOkOrder(t *testing.T) {
	if !impl.InstsOk(nil) || !impl.InstsOk([]impl.Inst{}) {
		t.Error("an empty list is invalid")
	}
	for _, c := range []struct {
		what string
		ids  []impl.Id
		want bool
	}{
		{"equal", []impl.Id{idOf(1, 2), idOf(1, 2)}, false},
		{"descending", []impl.Id{idOf(1, 2), idOf(0, 2)}, false},
		{"descending by Slot", []impl.Id{idOf(1, 2), idOf(1, 1)}, false},
		{"ascending by Slot, not by Rep", []impl.Id{idOf(1, 2), idOf(0, 3), idOf(0, 4)}, false},
		{"ascending by Rep, not by Slot", []impl.Id{idOf(0, 3), idOf(1, 2), idOf(2, 1)}, true},
		{"equal ones apart", []impl.Id{idOf(0, 3), idOf(1, 2), idOf(0, 3)}, false},
		{"all", allIds(), true},
	} {
		var unset, set []impl.Inst
		for i, id := range c.ids {
			unset = append(unset, unsetInst(id, i))
			set = append(set, setInst(id))
		}
		if impl.InstsOk(unset) != c.want || impl.InstsOk(set) != c.want {
			t.Errorf("%s: want %v", c.what, c.want)
		}
	}
	for _, a := range allIds() {
		for _, b := range allIds() {
			want := a.Rep < b.Rep || a.Rep == b.Rep && a.Slot < b.Slot
			if impl.InstsOk([]impl.Inst{setInst(a), unsetInst(b, 1)}) != want {
				t.Errorf("%v and then %v: want %v", a, b, want)
			}
		}
	}
	many := slices.Repeat([]impl.Inst{setInst(idOf(0, 1)), setInst(idOf(0, 2))}, 100000)
	if impl.InstsOk(many) || impl.InstPut(many, setInst(idOf(0, 3))) != nil {
		t.Error("a long list is valid")
	}
}

func TestInstsOkAtEachPlace(t *testing.T) {
	for _, l := range validInstLists() {
		checkInstsOk(t, "given", l)
		if !impl.InstsOk(l) {
			t.Errorf("%+v is invalid", l)
		}
		for i := range l {
			for what, change := range map[string]func(*impl.Inst){
				"Rep":    func(x *impl.Inst) { x.Id.Rep = 3 },
				"Slot":   func(x *impl.Inst) { x.Id.Slot = 0 },
				"Bal":    func(x *impl.Inst) { x.Bal = 601 },
				"VBal":   func(x *impl.Inst) { x.VBal = x.Bal + 1 },
				"Status": func(x *impl.Inst) { x.Status = 4 },
				"Cmd":    func(x *impl.Inst) { x.Cmd.No = -1 },
				"Seq":    func(x *impl.Inst) { x.Seq = 61 },
				"Deps":   func(x *impl.Inst) { x.Deps = []impl.Id{x.Id} },
			} {
				changed := freshInsts(l)
				change(&changed[i])
				if impl.InstsOk(changed) {
					t.Errorf("%s of %d: %+v is valid", what, i, changed)
				}
			}
		}
	}
	for _, l := range invalidInstLists() {
		checkInstsOk(t, "given", l)
		if impl.InstsOk(l) {
			t.Errorf("%+v is valid", l)
		}
	}
}

func TestJoinIdsExamples(t *testing.T) {
	a, b, c, d := idOf(0, 2), idOf(0, 6), idOf(1, 1), idOf(2, 3)
	for _, x := range []struct {
		what   string
		first  []impl.Id
		second []impl.Id
		want   []impl.Id
	}{
		{"empty", nil, []impl.Id{}, nil},
		{"one and none", []impl.Id{a}, nil, []impl.Id{a}},
		{"all and none", []impl.Id{a, b, c, d}, nil, []impl.Id{a, b, c, d}},
		{"equal", []impl.Id{a, c}, []impl.Id{a, c}, []impl.Id{a, c}},
		{"disjoint", []impl.Id{a, b}, []impl.Id{c, d}, []impl.Id{a, b, c, d}},
		{"interleaved", []impl.Id{a, c}, []impl.Id{b, d}, []impl.Id{a, b, c, d}},
		{"nested", []impl.Id{a, b, c, d}, []impl.Id{b, c}, []impl.Id{a, b, c, d}},
		{"around", []impl.Id{a, d}, []impl.Id{b, c}, []impl.Id{a, b, c, d}},
		{"overlapping", []impl.Id{a, b, c}, []impl.Id{b, c, d}, []impl.Id{a, b, c, d}},
		{"by Rep before Slot", []impl.Id{c}, []impl.Id{b}, []impl.Id{b, c}},
		{"descending", []impl.Id{b, a}, []impl.Id{c}, nil},
		{"descending and none", []impl.Id{b, a}, nil, nil},
		{"twice", []impl.Id{a, a}, []impl.Id{a}, nil},
		{"an invalid one", []impl.Id{a, idOf(0, 7)}, []impl.Id{a}, nil},
		{"the zero Id", []impl.Id{{}}, []impl.Id{a}, nil},
		{"both invalid", []impl.Id{b, a}, []impl.Id{{}}, nil},
		{"both descending", []impl.Id{b, a}, []impl.Id{b, a}, nil},
	} {
		if got := checkJoin(t, x.first, x.second); !slices.Equal(got, x.want) {
			t.Errorf("%s: %v", x.what, got)
		}
	}
}

func TestJoinIdsOfAllLists(t *testing.T) {
	ids := []impl.Id{idOf(0, 2), idOf(0, 5), idOf(1, 1), idOf(1, 2), idOf(2, 1), idOf(2, 6)}
	var lists [][]impl.Id
	for bits := range 1 << len(ids) {
		var l []impl.Id
		for i, id := range ids {
			if bits>>i&1 == 1 {
				l = append(l, id)
			}
		}
		lists = append(lists, l)
	}
	for _, a := range lists {
		for _, b := range lists {
			checkJoin(t, a, b)
		}
	}
	all := allIds()
	for i := range len(all) + 1 {
		checkJoin(t, all[:i], all[i:])
		checkJoin(t, all, all[:i])
		checkJoin(t, all[i:], all)
	}
	if got := impl.JoinIds(all, all); !slices.Equal(got, all) {
		t.Errorf("all with all: %v", got)
	}
}

func TestJoinIdsOfAnyLists(t *testing.T) {
	r := lcg(8)
	for range 3000 {
		var lists [2][]impl.Id
		for i := range lists {
			odds := 1 + r.below(4)
			lists[i] = wantOfAll(func(impl.Id) bool { return r.below(4) < odds })
			if r.below(5) == 0 {
				at := r.below(len(lists[i]) + 1)
				other := append(allIds(), otherIds()...)[r.below(18+len(otherIds()))]
				lists[i] = slices.Insert(lists[i], at, other)
			}
		}
		checkJoin(t, lists[0], lists[1])
	}
	long := slices.Repeat(allIds(), 10000)
	if impl.JoinIds(long, nil) != nil || impl.JoinIds(allIds(), long) != nil {
		t.Error("a long list is joined")
	}
}

func TestAttrsOfLeavesOutTheInstanceItself(t *testing.T) {
	a, b, c := idOf(0, 3), idOf(1, 2), idOf(2, 1)
	l := []impl.Inst{plainInst(a, readOf("s"), 4), plainInst(b, readOf("s"), 60), plainInst(c, readOf("s"), 7)}
	for _, x := range []struct {
		id   impl.Id
		seq  int
		deps []impl.Id
	}{
		{a, 61, []impl.Id{b, c}},
		{b, 8, []impl.Id{a, c}},
		{c, 61, []impl.Id{a, b}},
		{idOf(0, 1), 61, []impl.Id{a, b, c}},
		{idOf(1, 3), 61, []impl.Id{a, b, c}},
		{idOf(0, 2), 61, []impl.Id{a, b, c}},
		{idOf(2, 6), 61, []impl.Id{a, b, c}},
	} {
		for _, cmd := range []impl.Cmd{readOf("s"), listOf()} {
			if seq, deps := impl.AttrsOf(l, x.id, cmd); seq != x.seq || !slices.Equal(deps, x.deps) {
				t.Errorf("%v: %d, %v", x.id, seq, deps)
			}
		}
	}
	for status := impl.EsPre; status <= impl.EsCom; status++ {
		alone := plainInst(b, listOf(), 60)
		alone.Status = status
		if seq, deps := impl.AttrsOf([]impl.Inst{alone}, b, listOf()); seq != 1 || len(deps) != 0 {
			t.Errorf("alone: %d, %v", seq, deps)
		}
		if seq, deps := impl.AttrsOf([]impl.Inst{alone}, c, listOf()); seq != 61 || !slices.Equal(deps, []impl.Id{b}) {
			t.Errorf("another one alone: %d, %v", seq, deps)
		}
	}
}

func TestAttrsOfWithoutAConflict(t *testing.T) {
	l := []impl.Inst{plainInst(idOf(0, 1), readOf("a"), 9), plainInst(idOf(0, 4), readOf("ab"), 60), plainInst(idOf(1, 1), impl.Cmd{}, 50), unsetInst(idOf(2, 2), 600)}
	for _, c := range []impl.Cmd{readOf("b"), readOf("aa"), readOf("abc"), {}, {Kind: 8}, {Kind: impl.CmRead, Set: "a"}, {Kind: impl.CmList}, {Kind: impl.CmList, Client: 1, No: 1, Set: "a"}} {
		for _, id := range []impl.Id{idOf(0, 1), idOf(2, 2), idOf(2, 6), {}} {
			if seq, deps := impl.AttrsOf(l, id, c); seq != 1 || len(deps) != 0 {
				t.Errorf("%v, %+v: %d, %v", id, c, seq, deps)
			}
		}
	}
	for _, c := range append(validCmds(), invalidCmds()...) {
		for _, empty := range [][]impl.Inst{nil, {}, {unsetInst(idOf(0, 1), 5)}, {plainInst(idOf(0, 1), impl.Cmd{}, 60)}} {
			if seq, deps := impl.AttrsOf(empty, idOf(1, 1), c); seq != 1 || len(deps) != 0 {
				t.Errorf("%+v: %d, %v", c, seq, deps)
			}
		}
	}
}

func TestAttrsOfEachStatus(t *testing.T) {
	l := []impl.Inst{
		{Id: idOf(0, 1), Bal: 5, VBal: 5, Status: impl.EsPre, Cmd: readOf("a"), Seq: 3, Same: true},
		{Id: idOf(0, 2), Bal: 5, VBal: 5, Status: impl.EsPre, Cmd: readOf("a"), Seq: 2},
		{Id: idOf(0, 3), Bal: 5, VBal: -1},
		{Id: idOf(1, 1), Bal: 5, VBal: 0, Status: impl.EsAcc, Cmd: readOf("a"), Seq: 6},
		{Id: idOf(1, 2), Bal: 5, VBal: 0, Status: impl.EsAcc, Seq: 60},
		{Id: idOf(1, 3), Bal: -1, VBal: -1, Status: impl.EsPre, Cmd: readOf("a"), Seq: 0},
		{Id: idOf(2, 1), Bal: 9, VBal: 1, Status: impl.EsCom, Cmd: readOf("a"), Seq: 5, Deps: []impl.Id{idOf(0, 1), idOf(2, 6)}},
		{Id: idOf(2, 2), Bal: 9, VBal: 1, Status: impl.EsCom, Cmd: readOf("b"), Seq: 40},
	}
	for _, x := range []struct {
		c    impl.Cmd
		seq  int
		deps []impl.Id
	}{
		{readOf("a"), 7, []impl.Id{idOf(0, 1), idOf(0, 2), idOf(1, 1), idOf(1, 3), idOf(2, 1)}},
		{readOf("b"), 41, []impl.Id{idOf(2, 2)}},
		{listOf(), 41, []impl.Id{idOf(0, 1), idOf(0, 2), idOf(1, 1), idOf(1, 3), idOf(2, 1), idOf(2, 2)}},
		{readOf("c"), 1, nil},
		{impl.Cmd{}, 1, nil},
	} {
		for _, id := range []impl.Id{idOf(2, 3), idOf(0, 3), idOf(1, 2)} {
			if seq, deps := impl.AttrsOf(l, id, x.c); seq != x.seq || !slices.Equal(deps, x.deps) {
				t.Errorf("%v, %+v: %d, %v", id, x.c, seq, deps)
			}
		}
	}
}

func TestAttrsOfTheMaximumOfSeq(t *testing.T) {
	ids := []impl.Id{idOf(0, 6), idOf(1, 1), idOf(2, 2)}
	for _, seqs := range [][]int{{0, 0, 0}, {1, 2, 3}, {3, 2, 1}, {1, 3, 2}, {60, 0, 59}, {0, 60, 60}, {0, 59, 60}, {59, 0, 0}} {
		var l []impl.Inst
		for i, id := range ids {
			l = append(l, plainInst(id, readOf("a"), seqs[i]))
		}
		if seq, deps := impl.AttrsOf(l, idOf(1, 6), readOf("a")); seq != 1+slices.Max(seqs) || !slices.Equal(deps, ids) {
			t.Errorf("%v: %d, %v", seqs, seq, deps)
		}
		// Of the one with another set neither Id nor Seq counts.
		l[1].Cmd = readOf("b")
		if seq, deps := impl.AttrsOf(l, idOf(1, 6), readOf("a")); seq != 1+max(seqs[0], seqs[2]) || !slices.Equal(deps, []impl.Id{ids[0], ids[2]}) {
			t.Errorf("%v without the second: %d, %v", seqs, seq, deps)
		}
	}
}

func TestAttrsOfEveryKindOfCommand(t *testing.T) {
	cmds := append(validCmds(), invalidCmds()...)
	for _, c := range cmds {
		for _, l := range validInstLists() {
			for _, id := range append(allIds(), impl.Id{}, idOf(3, 1)) {
				checkAttrs(t, l, id, c)
			}
		}
		for _, d := range validCmds() {
			seq, deps := impl.AttrsOf([]impl.Inst{plainInst(idOf(1, 1), d, 8)}, idOf(0, 1), c)
			if clash := impl.Clash(c, d); clash != (seq == 9 && slices.Equal(deps, []impl.Id{idOf(1, 1)})) || !clash && (seq != 1 || len(deps) != 0) {
				t.Errorf("%+v after %+v: %d, %v", c, d, seq, deps)
			}
		}
	}
}

func TestAttrsOfAnIdThatIsNotValid(t *testing.T) {
	for _, l := range validInstLists() {
		for _, id := range otherIds() {
			for _, c := range []impl.Cmd{readOf("a"), readOf("s"), listOf(), {}} {
				checkAttrs(t, l, id, c)
			}
		}
	}
	l := []impl.Inst{plainInst(idOf(0, 1), readOf("a"), 3)}
	if seq, deps := impl.AttrsOf(l, impl.Id{}, readOf("a")); seq != 4 || !slices.Equal(deps, []impl.Id{idOf(0, 1)}) {
		t.Errorf("the zero Id: %d, %v", seq, deps)
	}
}

func TestInstFunctionsOfAnInvalidList(t *testing.T) {
	for _, l := range invalidInstLists() {
		before := freshInsts(l)
		for _, id := range append(allIds(), otherIds()...) {
			for _, c := range []impl.Cmd{readOf("a"), readOf("abcdefgh"), listOf(), {}, {Kind: 9}} {
				if seq, deps := impl.AttrsOf(l, id, c); seq != 0 || deps != nil {
					t.Errorf("AttrsOf(%+v, %v, %+v) = %d, %v", l, id, c, seq, deps)
				}
			}
			for _, x := range []impl.Inst{setInst(id), unsetInst(id, 4), {Id: id}} {
				if got := impl.InstPut(l, x); got != nil {
					t.Errorf("InstPut(%+v, %+v) = %+v", l, x, got)
				}
			}
		}
		if !equalInstLists(l, before) {
			t.Errorf("%+v has become %+v", before, l)
		}
	}
}

func TestInstAtEachPlace(t *testing.T) {
	a, b, c := setInst(idOf(0, 2)), unsetInst(idOf(1, 1), 4), plainInst(idOf(2, 6), listOf(), 60)
	l := []impl.Inst{a, b, c}
	for _, x := range l {
		if got := impl.InstAt(l, x.Id); !equalInsts(got, x) {
			t.Errorf("%v: %+v", x.Id, got)
		}
	}
	for _, id := range []impl.Id{idOf(0, 1), idOf(0, 3), idOf(1, 2), idOf(1, 6), idOf(2, 5), idOf(2, 2), {}, idOf(0, 7), idOf(3, 1), idOf(-1, -1), idOf(math.MaxInt, math.MinInt)} {
		if got := impl.InstAt(l, id); !reflect.DeepEqual(got, impl.Inst{Id: id, Bal: -1, VBal: -1}) {
			t.Errorf("%v: %+v", id, got)
		}
	}
	for _, l := range validInstLists() {
		for _, id := range append(allIds(), otherIds()...) {
			checkInstAt(t, l, id)
		}
	}
}

// The chapter states no special result for an invalid list: what has the Id is
// returned as it is, the first one if there are several.
func TestInstAtOfAnInvalidList(t *testing.T) {
	a, b := setInst(idOf(0, 2)), setInst(idOf(1, 1))
	for _, l := range [][]impl.Inst{{b, a}, {a, b, a}, {a, b, {}}} {
		if got := impl.InstAt(l, a.Id); !equalInsts(got, a) {
			t.Errorf("%+v: %+v", l, got)
		}
		if got := impl.InstAt(l, b.Id); !equalInsts(got, b) {
			t.Errorf("%+v: %+v", l, got)
		}
	}
	twice := []impl.Inst{unsetInst(idOf(0, 2), 1), unsetInst(idOf(0, 2), 2)}
	if got := impl.InstAt(twice, idOf(0, 2)); got.Bal != 1 {
		t.Errorf("the first of two: %+v", got)
	}
	odd := impl.Inst{Id: idOf(7, -7), Bal: math.MaxInt, VBal: math.MinInt, Status: 9, Cmd: impl.Cmd{Kind: -3, Set: "No word", Chunks: []string{""}}, Seq: -5, Deps: []impl.Id{{}, {}}, Same: true}
	if got := impl.InstAt([]impl.Inst{a, odd}, odd.Id); !equalInsts(got, odd) {
		t.Errorf("an invalid one: %+v", got)
	}
	for _, l := range invalidInstLists() {
		for _, id := range append(allIds(), otherIds()...) {
			checkInstAt(t, l, id)
		}
	}
}

func TestInstPutIntoEveryPlace(t *testing.T) {
	for _, id := range allIds() {
		var l []impl.Inst
		for i, other := range allIds() {
			if other != id {
				l = append(l, unsetInst(other, i))
			}
		}
		for _, x := range []impl.Inst{setInst(id), unsetInst(id, 77), plainInst(id, listOf(), 60)} {
			got := tryInstPut(t, l, x)
			if at := idNumber(id); len(got) != 18 || !equalInsts(got[at], x) {
				t.Errorf("%v: %+v", id, got)
			}
			over := tryInstPut(t, got, unsetInst(id, 78))
			if at := idNumber(id); len(over) != 18 || over[at].Bal != 78 || over[at].Seq != 0 {
				t.Errorf("%v again: %+v", id, over)
			}
		}
		alone := tryInstPut(t, nil, setInst(id))
		if len(alone) != 1 || !equalInsts(alone[0], setInst(id)) {
			t.Errorf("%v into nothing: %+v", id, alone)
		}
	}
	for _, a := range allIds() {
		for _, b := range allIds() {
			for _, c := range allIds() {
				l := tryInstPut(t, tryInstPut(t, nil, unsetInst(a, 1)), unsetInst(b, 2))
				tryInstPut(t, l, unsetInst(c, 3))
			}
		}
	}
}

func TestInstPutInPlaceOfAnother(t *testing.T) {
	for _, l := range validInstLists() {
		for i, old := range l {
			for _, x := range []impl.Inst{setInst(old.Id), unsetInst(old.Id, 0), plainInst(old.Id, readOf("q"), 1), old} {
				got := tryInstPut(t, l, x)
				if len(got) != len(l) || !equalInsts(got[i], x) || !equalInsts(impl.InstAt(got, old.Id), x) {
					t.Errorf("%+v in place of %d: %+v", x, i, got)
				}
			}
		}
	}
}

func TestInstPutOfAnInvalidOne(t *testing.T) {
	for _, l := range validInstLists() {
		for _, bad := range invalidInstLists() {
			x := bad[len(bad)-1]
			if wantInstOk(x) {
				continue
			}
			if got := tryInstPut(t, l, x); !equalInstLists(got, l) {
				t.Errorf("%+v into %+v: %+v", x, l, got)
			}
			// The Id of one that is there makes no difference.
			for _, old := range l {
				y := x
				y.Id, y.Bal = old.Id, 601
				if got := tryInstPut(t, l, y); !equalInstLists(got, l) {
					t.Errorf("%+v into %+v: %+v", y, l, got)
				}
			}
		}
		for _, id := range otherIds() {
			if got := tryInstPut(t, l, unsetInst(id, 4)); !equalInstLists(got, l) {
				t.Errorf("%v into %+v: %+v", id, l, got)
			}
		}
	}
}

// anyInst is a valid instance of this Id.
func anyInst(r *lcg, id impl.Id) impl.Inst {
	x := unsetInst(id, r.below(602)-1)
	if r.below(5) == 0 {
		return x
	}
	x.VBal = r.below(x.Bal+2) - 1
	x.Status = 1 + r.below(3)
	x.Cmd = validCmds()[r.below(len(validCmds()))]
	x.Seq = r.below(61)
	x.Deps = wantOfAll(func(other impl.Id) bool { return other != id && r.below(4) == 0 })
	x.Same = r.below(2) == 0
	return x
}

// spoil makes most instances invalid in one field.
func spoil(r *lcg, x impl.Inst) impl.Inst {
	numbers := []int{-2, -1, 4, 61, 601, math.MinInt, math.MaxInt}
	n := numbers[r.below(len(numbers))]
	switch r.below(8) {
	case 0:
		x.Id.Rep = n
	case 1:
		x.Id.Slot = n
	case 2:
		x.Bal = n
	case 3:
		x.VBal = n
	case 4:
		x.Status = n
	case 5:
		x.Cmd = invalidCmds()[r.below(len(invalidCmds()))]
	case 6:
		x.Seq = n
	case 7:
		x.Deps = append(slices.Clone(x.Deps), x.Id)
	}
	return x
}

func TestInstsAnySequence(t *testing.T) {
	for seed := range 60 {
		r := lcg(seed + 80)
		var l []impl.Inst
		for range 60 {
			x := anyInst(&r, allIds()[r.below(18)])
			if r.below(6) == 0 {
				x = spoil(&r, x)
			}
			l = tryInstPut(t, l, x)
			id := allIds()[r.below(18)]
			checkInstAt(t, l, id)
			checkAttrs(t, l, id, validCmds()[r.below(len(validCmds()))])
			if len(l) > 1 && r.below(4) == 0 {
				broken := freshInsts(l)
				at := r.below(len(broken))
				broken[at] = spoil(&r, broken[at])
				checkInstsOk(t, "spoilt", broken)
				checkAttrs(t, broken, id, listOf())
				checkInstAt(t, broken, broken[at].Id)
				if got, want := impl.InstPut(broken, x), wantInstPut(broken, x); !equalInstLists(got, want) {
					t.Fatalf("InstPut(%+v, %+v) = %+v, want %+v", broken, x, got, want)
				}
			}
		}
	}
}

// A command depends on exactly the instances that conflict with it: here the
// attributes are built up command by command, as nodes do it.
func TestDependenciesAreTheConflicts(t *testing.T) {
	for seed := range 60 {
		r := lcg(seed + 900)
		var l []impl.Inst
		free := allIds()
		for len(free) > 0 {
			at := r.below(len(free))
			id := free[at]
			free = slices.Delete(free, at, at+1)
			c := validCmds()[r.below(len(validCmds()))]
			seq, deps := impl.AttrsOf(l, id, c)
			for _, x := range l {
				depends := slices.Contains(deps, x.Id)
				if depends != wantClash(x.Cmd, c) || depends && seq <= x.Seq {
					t.Fatalf("%+v after %+v: %d, %v", c, x, seq, deps)
				}
			}
			l = tryInstPut(t, l, impl.Inst{Id: id, Bal: id.Rep, VBal: id.Rep, Status: 1 + r.below(3), Cmd: c, Seq: seq, Deps: deps, Same: true})
			if len(l) != 18-len(free) {
				t.Fatalf("%d instances, %d Ids left", len(l), len(free))
			}
		}
	}
}

func TestInstFunctionsChangeNoArgument(t *testing.T) {
	spare := setInst(idOf(2, 6))
	spareId := idOf(9, 9)
	for _, want := range append(validInstLists(), invalidInstLists()...) {
		for _, room := range []int{0, 1, 20} {
			all := append(freshInsts(want), slices.Repeat([]impl.Inst{spare}, room)...)
			for i, x := range all {
				all[i].Deps = append(slices.Clone(x.Deps), spareId, spareId)[:len(x.Deps)]
				all[i].Cmd.Chunks = append(slices.Clone(x.Cmd.Chunks), "spare---")[:len(x.Cmd.Chunks)]
			}
			l := all[:len(want)]
			instCalls(l)
			if !equalInstLists(l, want) {
				t.Errorf("%+v has become %+v", want, l)
			}
			for _, x := range all[len(want):] {
				if !equalInsts(x, spare) {
					t.Errorf("%+v: unused capacity has become %+v", want, x)
				}
			}
			for _, x := range all {
				if x.Deps[:len(x.Deps)+1][len(x.Deps)] != spareId || x.Cmd.Chunks[:len(x.Cmd.Chunks)+1][len(x.Cmd.Chunks)] != "spare---" {
					t.Errorf("unused capacity of a list of %+v has changed", x)
				}
			}
		}
	}
}

func TestJoinIdsChangesNoArgument(t *testing.T) {
	spare := idOf(9, 9)
	a, b := []impl.Id{idOf(0, 2), idOf(1, 1)}, []impl.Id{idOf(0, 1), idOf(1, 1), idOf(2, 5)}
	for _, pair := range [][2][]impl.Id{{a, b}, {b, a}, {a, nil}, {nil, a}, {a, a}, {nil, nil}} {
		first := append(slices.Clone(pair[0]), slices.Repeat([]impl.Id{spare}, 20)...)
		second := append(slices.Clone(pair[1]), slices.Repeat([]impl.Id{spare}, 20)...)
		checkJoin(t, first[:len(pair[0])], second[:len(pair[1])])
		impl.IdsOk(first[:len(pair[0])])
		for _, id := range append(first[len(pair[0]):], second[len(pair[1]):]...) {
			if id != spare {
				t.Errorf("%v: unused capacity has become %v", pair, id)
			}
		}
	}
}

// instCalls makes calls of every kind, with the rejected ones, and collects
// what they return.
func instCalls(l []impl.Inst) (insts []impl.Inst, ids [][]impl.Id) {
	impl.InstsOk(l)
	for _, id := range append(allIds(), impl.Id{}) {
		insts = append(insts, impl.InstAt(l, id))
		for _, x := range []impl.Inst{setInst(id), unsetInst(id, 3), {Id: id, Bal: 601}} {
			insts = append(insts, impl.InstPut(l, x)...)
		}
		_, deps := impl.AttrsOf(l, id, listOf())
		ids = append(ids, deps)
	}
	return insts, ids
}

// shareSlots reports whether the slices have an element in common, be it only
// in their capacity.
func shareSlots[T any](a []T, b []T) bool {
	if cap(a) == 0 || cap(b) == 0 {
		return false
	}
	size := unsafe.Sizeof(a[:1][0])
	x, y := uintptr(unsafe.Pointer(unsafe.SliceData(a))), uintptr(unsafe.Pointer(unsafe.SliceData(b)))
	return x < y+uintptr(cap(b))*size && y < x+uintptr(cap(a))*size
}

// instsApart tells that no two of the instances share memory in a list or in a
// text.
func instsApart(t *testing.T, what string, l []impl.Inst) {
	t.Helper()
	var texts []string
	for i, x := range l {
		texts = append(texts, x.Cmd.Set, x.Cmd.Name, x.Cmd.Tag)
		texts = append(texts, x.Cmd.Chunks...)
		for j, y := range l[:i] {
			if shareSlots(x.Deps, y.Deps) || shareSlots(x.Cmd.Chunks, y.Cmd.Chunks) {
				t.Fatalf("%s: %d shares a list with %d: %+v, %+v", what, i, j, x, y)
			}
		}
	}
	apart(t, what, texts)
}

func TestInstPutSharesNoMemory(t *testing.T) {
	for _, given := range validInstLists() {
		var puts []impl.Inst
		for _, id := range []impl.Id{idOf(0, 1), idOf(0, 2), idOf(1, 1), idOf(2, 6), {}} {
			puts = append(puts, setInst(id), unsetInst(id, 4))
		}
		for _, put := range puts {
			l, x := freshInsts(given), freshInst(put)
			first, second := impl.InstPut(l, x), impl.InstPut(l, x)
			instsApart(t, "InstPut", slices.Concat(l, []impl.Inst{x}, first, second))
			if shareSlots(l, first) || shareSlots(l, second) || shareSlots(first, second) {
				t.Fatalf("InstPut(%+v, %+v) shares a list", l, x)
			}
		}
	}
}

// The argument has one list and one text in several places; the result has not.
func TestInstPutSeparatesWhatTheArgumentShares(t *testing.T) {
	deps, chunks, text := []impl.Id{idOf(0, 1), idOf(2, 6)}, []string{idA, idA}, strings.Repeat("s", 3)
	shared := func(id impl.Id) impl.Inst {
		return impl.Inst{Id: id, Bal: 3, VBal: 3, Status: impl.EsAcc, Cmd: impl.Cmd{Kind: impl.CmCommit, Client: 1, No: 1, Set: text, Name: text, Chunks: chunks}, Seq: 2, Deps: deps}
	}
	l := []impl.Inst{shared(idOf(0, 2)), shared(idOf(1, 2)), shared(idOf(2, 2))}
	for _, x := range []impl.Inst{shared(idOf(1, 3)), shared(idOf(1, 2)), shared(idOf(0, 1)), l[0]} {
		got := tryInstPut(t, l, x)
		instsApart(t, "InstPut", got)
		for _, y := range got {
			if shareSlots(y.Deps, deps) || shareSlots(y.Cmd.Chunks, chunks) || shareBytes(y.Cmd.Set, text) {
				t.Errorf("%+v shares memory with the argument", y)
			}
		}
	}
}

func TestInstAtSharesNoMemory(t *testing.T) {
	for _, given := range append(validInstLists(), invalidInstLists()...) {
		l := freshInsts(given)
		for _, id := range append(allIds(), otherIds()...) {
			first, second := impl.InstAt(l, id), impl.InstAt(l, id)
			instsApart(t, "InstAt", append(slices.Clone(l), first, second))
			before := freshInst(second)
			for i := range first.Deps {
				first.Deps[i] = idOf(8, 8)
			}
			for i := range first.Cmd.Chunks {
				first.Cmd.Chunks[i] = "changed-"
			}
			if !equalInstLists(l, given) || !equalInsts(second, before) {
				t.Fatalf("a change of a result of %v changes %+v or %+v", id, l, second)
			}
		}
	}
}

func TestAttrsOfAndJoinIdsShareNoMemory(t *testing.T) {
	for _, given := range validInstLists() {
		l := freshInsts(given)
		_, first := impl.AttrsOf(l, idOf(1, 2), listOf())
		_, second := impl.AttrsOf(l, idOf(1, 2), listOf())
		for _, x := range l {
			if shareSlots(x.Deps, first) || shareSlots(first, second) {
				t.Errorf("AttrsOf of %+v shares memory", l)
			}
		}
	}
	a, b := []impl.Id{idOf(0, 2), idOf(1, 1)}, []impl.Id{idOf(0, 1), idOf(1, 1), idOf(2, 5)}
	for _, pair := range [][2][]impl.Id{{a, b}, {b, a}, {a, nil}, {nil, a}, {a, a}, {a, a[:1]}, {b[:0], b}, {b, b[:0]}, {b[:0], b[:0]}} {
		first, second := impl.JoinIds(pair[0], pair[1]), impl.JoinIds(pair[0], pair[1])
		if shareSlots(first, a) || shareSlots(first, b) || shareSlots(first, second) {
			t.Errorf("JoinIds of %v shares memory", pair)
		}
	}
}

func TestInstFunctionsKeepNoState(t *testing.T) {
	lists := append(validInstLists(), invalidInstLists()...)
	for _, l := range lists {
		insts, ids := instCalls(l)
		for _, other := range lists {
			impl.InstPut(other, setInst(idOf(1, 1)))
			impl.AttrsOf(other, idOf(1, 1), listOf())
			impl.JoinIds(allIds()[:5], allIds()[3:])
		}
		again, same := instCalls(l)
		if !equalInstLists(insts, again) || !slices.EqualFunc(ids, same, slices.Equal[[]impl.Id]) {
			t.Errorf("%+v has other results later", l)
		}
	}
}
