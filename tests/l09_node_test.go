package tests

import (
	"math"
	"reflect"
	"slices"
	"strings"
	"testing"

	"loop.example/g00954/impl"
)

func newNode(me int) impl.ENode {
	n, _ := impl.ENodeNew(me)
	return n
}

func commitOf(set string) impl.Cmd {
	return impl.Cmd{Kind: impl.CmCommit, Client: 3, No: 4, Set: set, Name: "snap", Chunks: []string{idA, idB}}
}

// nodeOf is a node that has given out all its Ids, so that it may have any
// instance.
func nodeOf(me int, insts []impl.Inst, leads ...impl.Lead) impl.ENode {
	return impl.ENode{Me: me, Next: 7, Insts: insts, Leads: leads}
}

// preInst is pre-accepted in the ballot, with the attributes of the Lead of
// leadOf.
func preInst(id impl.Id, bal int) impl.Inst {
	return impl.Inst{Id: id, Bal: bal, VBal: bal, Status: impl.EsPre, Cmd: readOf("a"), Seq: 3, Deps: depsFor(id), Same: true}
}

// depsFor are some Ids other than this one.
func depsFor(id impl.Id) []impl.Id {
	return slices.DeleteFunc([]impl.Id{idOf(0, 5), idOf(1, 5), idOf(2, 5)}, func(other impl.Id) bool { return other == id })
}

func leadOf(id impl.Id, bal int, phase int, from ...int) impl.Lead {
	return impl.Lead{Id: id, Bal: bal, Phase: phase, Seq: 3, Deps: depsFor(id), From: from, Same: true}
}

// manyLeads are recoveries of the first Ids, without this one.
func manyLeads(count int, without impl.Id) []impl.Lead {
	var out []impl.Lead
	for _, id := range allIds() {
		if len(out) < count && id != without {
			out = append(out, impl.Lead{Id: id, Bal: 9, Phase: 3})
		}
	}
	return out
}

func TestNodeConstants(t *testing.T) {
	got := []int{impl.MaxLeads, impl.EkPre, impl.EkPreOk, impl.EkAcc, impl.EkAccOk, impl.EkCom, impl.EkPrep, impl.EkPrepOk}
	if !slices.Equal(got, []int{8, 1, 2, 3, 4, 5, 6, 7}) {
		t.Error("constants", got)
	}
}

// baseMsgs are valid, one of each Kind, with values in all fields.
func baseMsgs() []impl.EMsg {
	var out []impl.EMsg
	for kind := 1; kind <= 7; kind++ {
		out = append(out, impl.EMsg{Kind: kind, From: kind % 3, To: (kind + 1) % 3, Id: idOf(1, 2), Bal: 7, Cmd: commitOf("s"), Seq: 9, Deps: []impl.Id{idOf(0, 1), idOf(2, 6)}, Status: impl.EsAcc, VBal: 4, Same: true})
	}
	return out
}

// checkMsg tells of one message whether it is valid, and that no node takes an
// invalid one.
func checkMsg(t *testing.T, what string, m impl.EMsg, valid bool) {
	t.Helper()
	if wantMsgOk(m) != valid {
		t.Fatalf("%s: the second reading takes %+v for %v", what, m, !valid)
	}
	if got := impl.EMsgOk(m); got != valid {
		t.Fatalf("%s: EMsgOk(%+v) = %v", what, m, got)
	}
	for me := range 3 {
		n := nodeOf(me, []impl.Inst{unsetInst(idOf(1, 2), 3)}, leadOf(idOf(1, 2), 7, 1+m.Kind&1))
		end := try(t, n, getCall(m))
		if !valid && end.ok {
			t.Fatalf("%s: node %d takes %+v", what, me, m)
		}
	}
}

// checkMsgNumber gives one field of messages of each Kind several values.
func checkMsgNumber(t *testing.T, what string, field func(*impl.EMsg) *int, low int, high int) {
	t.Helper()
	numbers := []int{low - 2, low - 1, low, low + 1, high - 1, high, high + 1, high + 2}
	for _, n := range append(numbers, bigNumbers()...) {
		for _, m := range baseMsgs() {
			*field(&m) = n
			checkMsg(t, what, m, low <= n && n <= high)
		}
	}
}

func TestEMsgOkNumbers(t *testing.T) {
	for _, m := range baseMsgs() {
		checkMsg(t, "base", m, true)
	}
	checkMsgNumber(t, "Bal", func(m *impl.EMsg) *int { return &m.Bal }, 0, 600)
	checkMsgNumber(t, "Seq", func(m *impl.EMsg) *int { return &m.Seq }, 0, 60)
	checkMsgNumber(t, "Status", func(m *impl.EMsg) *int { return &m.Status }, 0, 3)
	checkMsgNumber(t, "VBal", func(m *impl.EMsg) *int { return &m.VBal }, -1, 600)
	checkMsgNumber(t, "Kind", func(m *impl.EMsg) *int { return &m.Kind }, 1, 7)
	for _, m := range baseMsgs() {
		m.Bal, m.VBal = 0, 600
		checkMsg(t, "VBal above Bal", m, true)
		m.Status, m.Same = impl.EsNone, false
		checkMsg(t, "values of EsNone", m, true)
		m.Same = !m.Same
		checkMsg(t, "Same", m, true)
	}
	checkMsg(t, "zero", impl.EMsg{}, false)
	checkMsg(t, "least", impl.EMsg{Kind: 1, To: 1, Id: idOf(0, 1)}, true)
}

func TestEMsgOkNodes(t *testing.T) {
	numbers := append([]int{-1, 0, 1, 2, 3}, bigNumbers()...)
	for _, m := range baseMsgs() {
		for _, m.From = range numbers {
			for _, m.To = range numbers {
				node := func(n int) bool { return n == 0 || n == 1 || n == 2 }
				checkMsg(t, "From and To", m, node(m.From) && node(m.To) && m.From != m.To)
			}
		}
	}
}

func TestEMsgOkIdAndCmd(t *testing.T) {
	for _, m := range baseMsgs() {
		for _, id := range allIds() {
			m.Id, m.Deps = id, nil
			checkMsg(t, "Id", m, true)
		}
		for _, id := range otherIds() {
			m.Id = id
			checkMsg(t, "invalid Id", m, false)
		}
		m.Id = idOf(1, 2)
		for _, c := range validCmds() {
			m.Cmd = c
			checkMsg(t, "Cmd", m, true)
		}
		for _, c := range invalidCmds() {
			m.Cmd = c
			checkMsg(t, "invalid Cmd", m, false)
		}
	}
}

func TestEMsgOkDeps(t *testing.T) {
	for _, m := range baseMsgs() {
		for _, c := range depsCases() {
			m.Deps = c.deps
			checkMsg(t, "Deps: "+c.what, m, c.want)
		}
	}
}

// everyCall has calls of each function, which a valid node takes or rejects.
func everyCall(n impl.ENode) []nodeCall {
	calls := []nodeCall{fallCall(), offerCall(readOf("a")), offerCall(commitOf("a")), offerCall(listOf()), offerCall(impl.Cmd{}), offerCall(impl.Cmd{Kind: 9})}
	ids := []impl.Id{idOf(0, 1), idOf(1, 2), idOf(2, 6), {}, idOf(math.MaxInt, math.MinInt)}
	for _, l := range n.Leads {
		ids = append(ids, l.Id)
	}
	for _, id := range ids {
		calls = append(calls, slowCall(id), recoverCall(id))
	}
	for _, m := range baseMsgs() {
		calls = append(calls, getCall(m))
	}
	return append(calls, getCall(impl.EMsg{}))
}

// checkNode tells of one node whether it is valid, and what is returned for an
// invalid one.
func checkNode(t *testing.T, what string, n impl.ENode, valid bool) {
	t.Helper()
	if wantNodeOk(n) != valid {
		t.Fatalf("%s: the second reading takes %+v for %v", what, n, !valid)
	}
	if got := impl.ENodeOk(n); got != valid {
		t.Fatalf("%s: ENodeOk(%+v) = %v", what, n, got)
	}
	for _, c := range everyCall(n) {
		if valid {
			try(t, n, c)
		} else {
			returnsZero(t, what, n, c)
		}
	}
}

// baseNode is valid, and has values in all fields.
func baseNode() impl.ENode {
	return impl.ENode{
		Me:   1,
		Next: 4,
		Insts: []impl.Inst{
			plainInst(idOf(0, 1), readOf("s"), 1), preInst(idOf(1, 1), 1), unsetInst(idOf(1, 3), 9), setInst(idOf(2, 6)),
		},
		Leads: []impl.Lead{leadOf(idOf(1, 1), 1, 1, 0), leadOf(idOf(0, 4), 7, 2), leadOf(idOf(1, 3), 9, 3)},
	}
}

func TestENodeOkNumbers(t *testing.T) {
	checkNode(t, "base", baseNode(), true)
	checkNode(t, "zero", impl.ENode{}, false)
	for _, me := range append([]int{-1, 0, 1, 2, 3}, bigNumbers()...) {
		n := nodeOf(me, []impl.Inst{setInst(idOf(0, 2))}, leadOf(idOf(1, 1), 1, 1))
		checkNode(t, "Me", n, 0 <= me && me <= 2)
		checkNode(t, "Me alone", impl.ENode{Me: me, Next: 1}, 0 <= me && me <= 2)
	}
	for _, next := range append([]int{-1, 0, 1, 2, 6, 7, 8, 9}, bigNumbers()...) {
		n := baseNode()
		n.Next, n.Insts = next, n.Insts[:1]
		checkNode(t, "Next", n, 1 <= next && next <= 7)
		checkNode(t, "Next alone", impl.ENode{Me: 2, Next: next}, 1 <= next && next <= 7)
	}
}

func TestENodeOkOwnInstances(t *testing.T) {
	for me := range 3 {
		for next := 1; next <= 7; next++ {
			for _, id := range allIds() {
				for _, x := range []impl.Inst{setInst(id), unsetInst(id, -1), plainInst(id, readOf("a"), 1)} {
					n := impl.ENode{Me: me, Next: next, Insts: []impl.Inst{x}}
					checkNode(t, "own instance", n, id.Rep != me || id.Slot < next)
				}
			}
		}
	}
	own := impl.ENode{Me: 1, Next: 3, Insts: []impl.Inst{setInst(idOf(0, 6)), setInst(idOf(1, 1)), setInst(idOf(1, 2)), setInst(idOf(2, 6))}}
	checkNode(t, "all before Next", own, true)
	own.Next = 2
	checkNode(t, "one at Next", own, false)
	own.Next = 1
	checkNode(t, "two at Next or more", own, false)
	// A Lead is not an instance: its Id may be any valid one.
	checkNode(t, "Lead at Next", impl.ENode{Me: 1, Next: 1, Leads: []impl.Lead{leadOf(idOf(1, 1), 1, 1)}}, true)
}

func TestENodeOkInstances(t *testing.T) {
	for _, l := range validInstLists() {
		checkNode(t, "instances", nodeOf(0, l), true)
	}
	for _, l := range invalidInstLists() {
		checkNode(t, "invalid instances", nodeOf(0, l), false)
	}
	checkNode(t, "many instances", nodeOf(0, slices.Repeat([]impl.Inst{setInst(idOf(0, 1)), setInst(idOf(0, 2))}, 10000)), false)
}

func TestENodeOkNumberOfLeads(t *testing.T) {
	for count := range 12 {
		checkNode(t, "number of Leads", nodeOf(0, nil, manyLeads(count, impl.Id{})...), count <= 8)
	}
	checkNode(t, "many Leads", nodeOf(0, nil, slices.Repeat(manyLeads(8, impl.Id{}), 10000)...), false)
	descending := manyLeads(8, impl.Id{})
	slices.Reverse(descending)
	checkNode(t, "Leads in any order", nodeOf(0, nil, descending...), true)
	for i := range 8 {
		for j := range 8 {
			leads := manyLeads(8, impl.Id{})
			leads[i].Id = leads[j].Id
			checkNode(t, "equal Ids", nodeOf(0, nil, leads...), i == j)
		}
	}
	a, b := leadOf(idOf(1, 2), 7, 1), leadOf(idOf(1, 2), 8, 3, 2)
	checkNode(t, "equal Ids only", nodeOf(0, nil, a, b), false)
}

// checkLead puts the Lead in each place among others.
func checkLead(t *testing.T, what string, l impl.Lead, valid bool) {
	t.Helper()
	others := []impl.Lead{leadOf(idOf(0, 6), 3, 1, 1, 2), {Id: idOf(2, 6), Bal: 4, Phase: 3}}
	for at := range 3 {
		n := nodeOf(0, []impl.Inst{preInst(idOf(1, 2), 1)}, slices.Insert(slices.Clone(others), at, l)...)
		checkNode(t, what, n, valid)
	}
	checkNode(t, what, impl.ENode{Me: 2, Next: 1, Leads: []impl.Lead{l}}, valid)
}

func checkLeadNumber(t *testing.T, what string, field func(*impl.Lead) *int, low int, high int) {
	t.Helper()
	numbers := []int{low - 2, low - 1, low, low + 1, high - 1, high, high + 1, high + 2}
	for _, n := range append(numbers, bigNumbers()...) {
		l := leadOf(idOf(1, 2), 1, 1, 0)
		*field(&l) = n
		checkLead(t, what, l, low <= n && n <= high)
	}
}

func TestENodeOkLead(t *testing.T) {
	checkLeadNumber(t, "Bal", func(l *impl.Lead) *int { return &l.Bal }, 0, 600)
	checkLeadNumber(t, "Phase", func(l *impl.Lead) *int { return &l.Phase }, 1, 3)
	checkLeadNumber(t, "Seq", func(l *impl.Lead) *int { return &l.Seq }, 0, 60)
	for _, c := range depsCases() {
		l := leadOf(idOf(1, 2), 1, 2, 0)
		l.Deps = c.deps
		checkLead(t, "Deps: "+c.what, l, c.want)
	}
	for _, id := range otherIds() {
		checkLead(t, "invalid Id", leadOf(id, 1, 1), false)
	}
	for _, id := range allIds() {
		checkNode(t, "Id", nodeOf(0, nil, leadOf(id, 1, 1)), true)
	}
	for _, same := range []bool{false, true} {
		l := leadOf(idOf(1, 2), 1, 3)
		l.Same = same
		checkLead(t, "Same", l, true)
	}
	checkLead(t, "zero", impl.Lead{}, false)
}

func TestENodeOkFrom(t *testing.T) {
	for _, from := range [][]int{nil, {}, {0}, {1}, {2}, {0, 1}, {0, 2}, {1, 2}, {0, 1, 2}} {
		checkLead(t, "From", leadOf(idOf(1, 2), 1, 1, from...), true)
	}
	for _, from := range [][]int{{-1}, {3}, {0, 0}, {1, 1}, {2, 2}, {1, 0}, {2, 0}, {2, 1}, {2, 1, 0}, {0, 2, 1}, {0, 1, 1}, {0, 1, 2, 2}, {0, 1, 2, 3}, {-1, 0, 1}, {0, 3}, {math.MinInt}, {math.MaxInt}, {0, math.MaxInt}, {math.MinInt, 2}} {
		checkLead(t, "From", leadOf(idOf(1, 2), 1, 1, from...), false)
	}
	checkLead(t, "long From", leadOf(idOf(1, 2), 1, 1, make([]int, 100000)...), false)
	for _, a := range bigNumbers() {
		for _, b := range bigNumbers() {
			checkLead(t, "big From", leadOf(idOf(1, 2), 1, 1, a, b), 0 <= a && a < b && b <= 2)
		}
	}
}

func TestENodeNew(t *testing.T) {
	for me := range 3 {
		n, ok := impl.ENodeNew(me)
		if !ok || !reflect.DeepEqual(n, impl.ENode{Me: me, Next: 1}) || !impl.ENodeOk(n) {
			t.Errorf("ENodeNew(%d) = %+v, %v", me, n, ok)
		}
	}
	for _, me := range []int{-1, 3, -2, 4, 6, math.MinInt, math.MinInt32, -1 << 32, 1 << 32, 1<<32 + 1, math.MaxInt} {
		if n, ok := impl.ENodeNew(me); ok || !reflect.DeepEqual(n, impl.ENode{}) {
			t.Errorf("ENodeNew(%d) = %+v, %v", me, n, ok)
		}
	}
}

func TestOfferOfANewNode(t *testing.T) {
	for me, others := range [][2]int{{1, 2}, {0, 2}, {0, 1}} {
		c := commitOf("a")
		n, sent := does(t, "offer", newNode(me), offerCall(c))
		id := idOf(me, 1)
		want := impl.ENode{Me: me, Next: 2,
			Insts: []impl.Inst{{Id: id, Bal: me, VBal: me, Status: impl.EsPre, Cmd: c, Seq: 1, Same: true}},
			Leads: []impl.Lead{{Id: id, Bal: me, Phase: 1, Seq: 1, Same: true}},
		}
		if !equalNodes(n, want) {
			t.Errorf("node %d: %+v", me, n)
		}
		sameMsgs(t, "offer", sent,
			impl.EMsg{Kind: impl.EkPre, From: me, To: others[0], Id: id, Bal: me, Cmd: c, Seq: 1, VBal: -1},
			impl.EMsg{Kind: impl.EkPre, From: me, To: others[1], Id: id, Bal: me, Cmd: c, Seq: 1, VBal: -1})
	}
}

func TestOfferDependsOnWhatConflicts(t *testing.T) {
	insts := []impl.Inst{plainInst(idOf(0, 1), readOf("a"), 4), plainInst(idOf(1, 1), readOf("b"), 9), unsetInst(idOf(1, 2), 5), plainInst(idOf(2, 1), listOf(), 7)}
	leads := []impl.Lead{{Id: idOf(2, 4), Bal: 3, Phase: 3}, {Id: idOf(1, 6), Bal: 3, Phase: 3}}
	n, sent := does(t, "offer", impl.ENode{Me: 0, Next: 2, Insts: insts, Leads: leads}, offerCall(readOf("a")))
	id, deps := idOf(0, 2), []impl.Id{idOf(0, 1), idOf(2, 1)}
	if n.Next != 3 || len(n.Insts) != 5 || n.Insts[1].Id != id {
		t.Errorf("%+v", n)
	}
	sameInst(t, "offer", n, impl.Inst{Id: id, Bal: 0, VBal: 0, Status: impl.EsPre, Cmd: readOf("a"), Seq: 8, Deps: deps, Same: true})
	sameLeads(t, "offer", n, leads[0], leads[1], impl.Lead{Id: id, Bal: 0, Phase: 1, Seq: 8, Deps: deps, Same: true})
	sameMsgs(t, "offer", sent,
		impl.EMsg{Kind: impl.EkPre, From: 0, To: 1, Id: id, Cmd: readOf("a"), Seq: 8, Deps: deps, VBal: -1},
		impl.EMsg{Kind: impl.EkPre, From: 0, To: 2, Id: id, Cmd: readOf("a"), Seq: 8, Deps: deps, VBal: -1})
}

func TestOfferOfEveryCommand(t *testing.T) {
	for me := range 3 {
		for _, n := range []impl.ENode{newNode(me), nodeAt(me, 3), nodeAt(me, 6)} {
			for _, c := range validCmds() {
				if c.Kind == impl.CmNoop {
					rejects(t, "CmNoop", n, offerCall(c))
					continue
				}
				after, sent := does(t, "offer", n, offerCall(c))
				if after.Next != n.Next+1 || len(sent) != 2 || !equalCmds(sent[1].Cmd, c) {
					t.Errorf("%+v: %+v, %+v", c, after, sent)
				}
			}
			for _, c := range invalidCmds() {
				rejects(t, "invalid command", n, offerCall(c))
			}
		}
	}
}

// nodeAt is a node with an unset instance of each other one, and with this Next.
func nodeAt(me int, next int) impl.ENode {
	n := impl.ENode{Me: me, Next: next}
	for rep := range 3 {
		if rep != me {
			n.Insts = append(n.Insts, plainInst(idOf(rep, 2), readOf("a"), 3+rep))
		}
	}
	return n
}

func TestOfferUpToTheLastSlot(t *testing.T) {
	for me := range 3 {
		n := newNode(me)
		for slot := 1; slot <= 6; slot++ {
			if n.Next != slot {
				t.Fatalf("Next is %d, want %d", n.Next, slot)
			}
			n, _ = does(t, "offer", n, offerCall(readOf("a")))
			x := wantInstAt(n.Insts, idOf(me, slot))
			if x.Seq != slot || len(x.Deps) != slot-1 || len(n.Leads) != slot {
				t.Errorf("slot %d: %+v", slot, x)
			}
		}
		if n.Next != 7 {
			t.Errorf("Next is %d in the end", n.Next)
		}
		rejects(t, "no Slot", n, offerCall(readOf("a")))
		fallen, _ := does(t, "fall", n, fallCall())
		rejects(t, "no Slot after a fall", fallen, offerCall(readOf("a")))
		n.Insts, n.Leads = nil, nil
		rejects(t, "no Slot and nothing else", n, offerCall(readOf("a")))
	}
}

func TestOfferWithManyLeads(t *testing.T) {
	for count := range 9 {
		for me := range 3 {
			n := impl.ENode{Me: me, Next: 4, Leads: manyLeads(count, idOf(me, 4))}
			if count == 8 {
				rejects(t, "no room for a Lead", n, offerCall(readOf("a")))
				continue
			}
			after, _ := does(t, "offer", n, offerCall(readOf("a")))
			sameLeads(t, "offer", after, append(n.Leads, impl.Lead{Id: idOf(me, 4), Bal: me, Phase: 1, Seq: 1, Same: true})...)
		}
	}
}

// No call leads to a Lead with an Id that is not given out, but the node is
// valid, and must remain so.
func TestOfferWhereALeadHasTheId(t *testing.T) {
	odd := leadOf(idOf(1, 2), 9, 3, 0, 2)
	other := leadOf(idOf(0, 1), 9, 3)
	n := impl.ENode{Me: 1, Next: 2, Leads: []impl.Lead{odd, other}}
	after, _ := does(t, "offer", n, offerCall(readOf("a")))
	sameLeads(t, "offer", after, impl.Lead{Id: idOf(1, 2), Bal: 1, Phase: 1, Seq: 1, Same: true}, other)
	full := impl.ENode{Me: 1, Next: 2, Leads: append(manyLeads(7, idOf(1, 2)), odd)}
	rejects(t, "no room for a Lead", full, offerCall(readOf("a")))
}

func TestOfferAtTheGreatestSeq(t *testing.T) {
	for seq, want := range map[int]bool{57: true, 58: true, 59: true, 60: false} {
		n := impl.ENode{Me: 0, Next: 2, Insts: []impl.Inst{plainInst(idOf(2, 1), readOf("a"), seq)}}
		if !want {
			rejects(t, "Seq", n, offerCall(readOf("a")))
			does(t, "no conflict", n, offerCall(readOf("b")))
			continue
		}
		after, sent := does(t, "Seq", n, offerCall(readOf("a")))
		if wantInstAt(after.Insts, idOf(0, 2)).Seq != seq+1 || sent[0].Seq != seq+1 || after.Leads[0].Seq != seq+1 {
			t.Errorf("Seq %d: %+v, %+v", seq, after, sent)
		}
	}
}

func TestSlowOfALead(t *testing.T) {
	for _, id := range []impl.Id{idOf(0, 1), idOf(1, 4), idOf(2, 6)} {
		for _, from := range [][]int{{0}, {1}, {2}, {0, 1}, {0, 2}, {1, 2}, {0, 1, 2}} {
			for _, bal := range []int{0, 1, 2, 5, 600} {
				other := leadOf(idOf(0, 3), 4, 3)
				n := nodeOf(1, []impl.Inst{preInst(id, bal), unsetInst(idOf(2, 6), 3)}, other, leadOf(id, bal, 1, from...), leadOf(idOf(2, 3), 5, 2))
				if id == idOf(2, 6) {
					n.Insts = n.Insts[:1]
				}
				n.Leads[1].Seq, n.Leads[1].Deps = 8, []impl.Id{idOf(0, 6)}
				after, sent := does(t, "slow", n, slowCall(id))
				sameInst(t, "slow", after, impl.Inst{Id: id, Bal: bal, VBal: bal, Status: impl.EsAcc, Cmd: readOf("a"), Seq: 8, Deps: []impl.Id{idOf(0, 6)}})
				sameLeads(t, "slow", after, other, impl.Lead{Id: id, Bal: bal, Phase: 2, Seq: 8, Deps: []impl.Id{idOf(0, 6)}, Same: true}, n.Leads[2])
				want := impl.EMsg{Kind: impl.EkAcc, From: 1, To: 0, Id: id, Bal: bal, Cmd: readOf("a"), Seq: 8, Deps: []impl.Id{idOf(0, 6)}, VBal: -1}
				second := want
				second.To = 2
				sameMsgs(t, "slow", sent, want, second)
				rejects(t, "slow again", after, slowCall(id))
			}
		}
	}
}

func TestSlowOfNoLead(t *testing.T) {
	id := idOf(0, 2)
	for _, phase := range []int{1, 2, 3} {
		for _, from := range [][]int{nil, {1}, {1, 2}} {
			n := nodeOf(0, []impl.Inst{preInst(id, 0)}, leadOf(id, 0, phase, from...))
			if phase == 1 && len(from) > 0 {
				does(t, "Phase 1", n, slowCall(id))
			} else {
				rejects(t, "Phase and From", n, slowCall(id))
			}
			for _, other := range append(otherIds(), idOf(0, 1), idOf(1, 2), idOf(2, 6)) {
				rejects(t, "another Id", n, slowCall(other))
			}
		}
	}
	rejects(t, "no Leads", nodeOf(0, []impl.Inst{preInst(id, 0)}), slowCall(id))
	rejects(t, "new", newNode(0), slowCall(idOf(0, 1)))
}

func TestSlowAfterALaterBallot(t *testing.T) {
	id, other := idOf(0, 2), leadOf(idOf(1, 1), 3, 3)
	for _, bal := range []int{-1, 0, 1, 2, 3, 5, 6, 600} {
		for _, status := range []int{impl.EsNone, impl.EsPre, impl.EsAcc} {
			x := unsetInst(id, bal)
			if status != impl.EsNone {
				x = impl.Inst{Id: id, Bal: bal, VBal: -1, Status: status, Cmd: readOf("a"), Seq: 2, Deps: []impl.Id{idOf(1, 1)}, Same: true}
			}
			n := nodeOf(0, []impl.Inst{x}, leadOf(id, 4, 1, 1), other)
			after, sent := does(t, "slow", n, slowCall(id))
			sameMsgs(t, "slow", sent)
			sameLeads(t, "slow", after, other)
			sameInst(t, "slow", after, x)
		}
	}
	after, sent := does(t, "no instance", nodeOf(0, nil, other, leadOf(id, 4, 1, 2)), slowCall(id))
	sameMsgs(t, "no instance", sent)
	sameLeads(t, "no instance", after, other)
	if len(after.Insts) != 0 {
		t.Errorf("%+v", after)
	}
}

func TestRecoverChoosesTheBallot(t *testing.T) {
	for _, c := range []struct{ me, bal, want int }{
		{0, -1, 3}, {1, -1, 4}, {2, -1, 5},
		{0, 0, 3}, {1, 1, 4}, {2, 2, 5},
		{0, 2, 3}, {1, 0, 4}, {2, 0, 5},
		{0, 3, 6}, {1, 3, 4}, {2, 3, 5},
		{0, 4, 6}, {1, 4, 7}, {2, 4, 5},
		{0, 5, 6}, {1, 5, 7}, {2, 5, 8},
		{0, 6, 9}, {1, 6, 7}, {2, 6, 8},
		{0, 596, 597}, {1, 594, 595}, {2, 595, 596},
		{0, 597, 600}, {0, 598, 600}, {0, 599, 600}, {0, 600, 0},
		{1, 597, 598}, {1, 598, 0}, {1, 599, 0}, {1, 600, 0},
		{2, 596, 599}, {2, 597, 599}, {2, 598, 599}, {2, 599, 0}, {2, 600, 0},
	} {
		for _, id := range []impl.Id{idOf(0, 1), idOf(1, 4), idOf(2, 6)} {
			n := nodeOf(c.me, []impl.Inst{unsetInst(id, c.bal)})
			if c.want == 0 {
				rejects(t, "Bal", n, recoverCall(id))
				continue
			}
			after, sent := does(t, "recover", n, recoverCall(id))
			sameInst(t, "recover", after, unsetInst(id, c.want))
			sameLeads(t, "recover", after, impl.Lead{Id: id, Bal: c.want, Phase: 3})
			if len(sent) != 2 || sent[0].Bal != c.want || sent[1].Bal != c.want {
				t.Errorf("node %d at %d: %+v", c.me, c.bal, sent)
			}
		}
	}
	for me := range 3 {
		for bal := -1; bal <= 600; bal++ {
			try(t, nodeOf(me, []impl.Inst{unsetInst(idOf(1, 1), bal)}), recoverCall(idOf(1, 1)))
		}
	}
}

func TestRecoverSendsOnlyTheBallot(t *testing.T) {
	id := idOf(2, 3)
	for me, others := range [][2]int{{1, 2}, {0, 2}, {0, 1}} {
		n := nodeOf(me, []impl.Inst{setInst(id)}, leadOf(id, 2, 1, 0, 1))
		after, sent := does(t, "recover", n, recoverCall(id))
		bal := []int{9, 10, 8}[me]
		sameMsgs(t, "recover", sent,
			impl.EMsg{Kind: impl.EkPrep, From: me, To: others[0], Id: id, Bal: bal, VBal: -1},
			impl.EMsg{Kind: impl.EkPrep, From: me, To: others[1], Id: id, Bal: bal, VBal: -1})
		x := setInst(id)
		x.Bal = bal
		sameInst(t, "recover", after, x)
	}
}

func TestRecoverOfEachStatus(t *testing.T) {
	id := idOf(1, 2)
	eachStatus(func(x impl.Inst) {
		for me := range 3 {
			for _, leads := range [][]impl.Lead{nil, {leadOf(id, 7, 1, 0)}, {leadOf(idOf(0, 1), 3, 3), leadOf(id, 4, 2), leadOf(idOf(2, 1), 3, 1)}} {
				n := nodeOf(me, []impl.Inst{x}, leads...)
				if x.Status == impl.EsCom {
					rejects(t, "EsCom", n, recoverCall(id))
					continue
				}
				after, _ := does(t, "recover", n, recoverCall(id))
				y := x
				y.Bal = []int{9, 10, 8}[me]
				sameInst(t, "recover", after, y)
				want := slices.Clone(leads)
				lead := impl.Lead{Id: id, Bal: y.Bal, Phase: 3}
				if len(want) == 0 {
					want = []impl.Lead{lead}
				} else {
					want[len(want)/2] = lead
				}
				sameLeads(t, "recover", after, want...)
			}
		}
	})
	committed := nodeOf(0, []impl.Inst{{Id: id, Bal: -1, VBal: -1, Status: impl.EsCom, Cmd: readOf("a")}})
	rejects(t, "EsCom without a ballot", committed, recoverCall(id))
}

func TestRecoverOfAnUnknownInstance(t *testing.T) {
	for me := range 3 {
		for next := 1; next <= 7; next++ {
			n := impl.ENode{Me: me, Next: next, Leads: []impl.Lead{{Id: idOf((me+1)%3, 1), Bal: 3, Phase: 3}}}
			for _, id := range allIds() {
				if id.Rep == me && id.Slot >= next {
					rejects(t, "not given out", n, recoverCall(id))
					continue
				}
				after, _ := does(t, "recover", n, recoverCall(id))
				sameInst(t, "recover", after, unsetInst(id, 3+me))
				if len(after.Insts) != 1 || after.Next != next {
					t.Errorf("%+v", after)
				}
			}
			for _, id := range otherIds() {
				rejects(t, "invalid Id", n, recoverCall(id))
			}
		}
	}
}

func TestRecoverWithManyLeads(t *testing.T) {
	id := idOf(2, 6)
	for me := range 3 {
		seven := manyLeads(7, id)
		after, _ := does(t, "seven others", nodeOf(me, nil, seven...), recoverCall(id))
		sameLeads(t, "seven others", after, append(seven, impl.Lead{Id: id, Bal: 3 + me, Phase: 3})...)
		rejects(t, "eight others", nodeOf(me, nil, manyLeads(8, id)...), recoverCall(id))
		for at := range 8 {
			leads := slices.Insert(manyLeads(7, id), at, leadOf(id, 2, 1, 0))
			after, _ := does(t, "one of eight", nodeOf(me, nil, leads...), recoverCall(id))
			leads[at] = impl.Lead{Id: id, Bal: 3 + me, Phase: 3}
			sameLeads(t, "one of eight", after, leads...)
		}
	}
}

func TestFall(t *testing.T) {
	for _, l := range validInstLists() {
		for _, leads := range [][]impl.Lead{nil, {}, manyLeads(1, impl.Id{}), baseNode().Leads, manyLeads(8, impl.Id{})} {
			n := nodeOf(2, l, leads...)
			after, sent := does(t, "fall", n, fallCall())
			if len(sent) != 0 || !equalNodes(after, nodeOf(2, l)) {
				t.Errorf("%+v: %+v, %+v", n, after, sent)
			}
		}
	}
	n := impl.ENode{Me: 1, Next: 3, Leads: manyLeads(2, impl.Id{})}
	if after, ok := impl.ENodeFall(n); !ok || !equalNodes(after, impl.ENode{Me: 1, Next: 3}) {
		t.Errorf("%+v", after)
	}
}

// preMsg asks node 1 for the instance {0, 2}.
func preMsg(bal int) impl.EMsg {
	return impl.EMsg{Kind: impl.EkPre, From: 0, To: 1, Id: idOf(0, 2), Bal: bal, Cmd: readOf("a"), Seq: 3, Deps: []impl.Id{idOf(0, 1)}, VBal: -1}
}

func TestPreOfANewInstance(t *testing.T) {
	a, b := plainInst(idOf(0, 1), readOf("a"), 2), plainInst(idOf(2, 1), readOf("a"), 2)
	id := idOf(0, 2)
	for _, c := range []struct {
		what  string
		insts []impl.Inst
		seq   int
		deps  []impl.Id
		same  bool
	}{
		{"nothing else", nil, 3, []impl.Id{idOf(0, 1)}, true},
		{"what it depends on", []impl.Inst{a}, 3, []impl.Id{idOf(0, 1)}, true},
		{"no conflict", []impl.Inst{a, plainInst(idOf(2, 1), readOf("b"), 60)}, 3, []impl.Id{idOf(0, 1)}, true},
		{"another one", []impl.Inst{b}, 3, []impl.Id{idOf(0, 1), idOf(2, 1)}, false},
		{"both", []impl.Inst{a, b}, 3, []impl.Id{idOf(0, 1), idOf(2, 1)}, false},
		{"another Seq", []impl.Inst{plainInst(idOf(0, 1), readOf("a"), 3)}, 4, []impl.Id{idOf(0, 1)}, false},
		{"another Seq and another one", []impl.Inst{a, plainInst(idOf(2, 1), listOf(), 59)}, 60, []impl.Id{idOf(0, 1), idOf(2, 1)}, false},
		{"itself, unset", []impl.Inst{a, unsetInst(id, 0)}, 3, []impl.Id{idOf(0, 1)}, true},
		{"itself, without a ballot", []impl.Inst{a, unsetInst(id, -1)}, 3, []impl.Id{idOf(0, 1)}, true},
	} {
		n := nodeOf(1, c.insts, leadOf(idOf(1, 1), 1, 1))
		after, sent := does(t, c.what, n, getCall(preMsg(0)))
		sameInst(t, c.what, after, impl.Inst{Id: id, Bal: 0, VBal: 0, Status: impl.EsPre, Cmd: readOf("a"), Seq: c.seq, Deps: c.deps, Same: c.same})
		sameMsgs(t, c.what, sent, impl.EMsg{Kind: impl.EkPreOk, From: 1, To: 0, Id: id, Bal: 0, Seq: c.seq, Deps: c.deps, VBal: -1, Same: c.same})
		sameLeads(t, c.what, after, n.Leads...)
	}
	full := nodeOf(1, []impl.Inst{plainInst(idOf(2, 1), readOf("a"), 60)})
	rejects(t, "Seq would be 61", full, getCall(preMsg(0)))
	noop := preMsg(0)
	noop.Cmd, noop.Seq, noop.Deps = impl.Cmd{}, 0, nil
	after, sent := does(t, "CmNoop", full, getCall(noop))
	sameInst(t, "CmNoop", after, impl.Inst{Id: id, Bal: 0, VBal: 0, Status: impl.EsPre, Seq: 1})
	sameMsgs(t, "CmNoop", sent, impl.EMsg{Kind: impl.EkPreOk, From: 1, To: 0, Id: id, Seq: 1, VBal: -1})
}

// The message has nothing that another message of its Kind does not have.
func TestPreLooksOnlyAtWhatItMentions(t *testing.T) {
	m := preMsg(4)
	m.Status, m.VBal, m.Same = impl.EsCom, 600, true
	after, sent := does(t, "other fields", newNode(1), getCall(m))
	sameInst(t, "other fields", after, impl.Inst{Id: m.Id, Bal: 4, VBal: 4, Status: impl.EsPre, Cmd: m.Cmd, Seq: 3, Deps: m.Deps, Same: true})
	sameMsgs(t, "other fields", sent, impl.EMsg{Kind: impl.EkPreOk, From: 1, To: 0, Id: m.Id, Bal: 4, Seq: 3, Deps: m.Deps, VBal: -1, Same: true})
}

func TestPreAtEachBallotAndStatus(t *testing.T) {
	id := idOf(0, 2)
	for status := impl.EsNone; status <= impl.EsCom; status++ {
		for _, bal := range []int{3, 5, 7} {
			x := impl.Inst{Id: id, Bal: 5, VBal: 2, Status: status, Cmd: commitOf("b"), Seq: 9, Deps: []impl.Id{idOf(2, 2)}, Same: true}
			if status == impl.EsNone {
				x = unsetInst(id, 5)
			}
			n := nodeOf(1, []impl.Inst{x})
			if bal < 5 || status > impl.EsPre {
				rejects(t, "EkPre", n, getCall(preMsg(bal)))
				continue
			}
			after, sent := does(t, "EkPre", n, getCall(preMsg(bal)))
			sameInst(t, "EkPre", after, impl.Inst{Id: id, Bal: bal, VBal: bal, Status: impl.EsPre, Cmd: readOf("a"), Seq: 3, Deps: []impl.Id{idOf(0, 1)}, Same: true})
			sameMsgs(t, "EkPre", sent, impl.EMsg{Kind: impl.EkPreOk, From: 1, To: 0, Id: id, Bal: bal, Seq: 3, Deps: []impl.Id{idOf(0, 1)}, VBal: -1, Same: true})
		}
	}
}

func TestPreThatArrivesTwice(t *testing.T) {
	first, sent := does(t, "first", newNode(1), getCall(preMsg(0)))
	// What came in the meantime makes no difference to the answer.
	later := preMsg(0)
	later.Id, later.Seq = idOf(2, 3), 40
	later.From = 2
	first, _ = does(t, "in the meantime", first, getCall(later))
	again, same := does(t, "again", first, getCall(preMsg(0)))
	if !equalNodes(first, again) || !equalMsgLists(sent, same) || len(same) != 1 {
		t.Errorf("%+v and %+v, %+v and %+v", first, again, sent, same)
	}
	other := preMsg(0)
	other.Cmd, other.Seq, other.Deps = listOf(), 30, nil
	if end := try(t, first, getCall(other)); !end.ok || !equalNodes(end.node, first) || !equalMsgLists(end.sent, sent) {
		t.Errorf("%+v", end)
	}
	prepared, _ := does(t, "prepared", first, getCall(impl.EMsg{Kind: impl.EkPrep, From: 2, To: 1, Id: idOf(0, 2), Bal: 5, VBal: -1}))
	rejects(t, "after a later ballot", prepared, getCall(preMsg(0)))
	// In the later ballot nothing is pre-accepted yet.
	anew, sent := does(t, "in the later ballot", prepared, getCall(preMsg(5)))
	if x := wantInstAt(anew.Insts, idOf(0, 2)); x.VBal != 5 || x.Same || sent[0].Same || x.Seq != 41 {
		t.Errorf("%+v, %+v", x, sent)
	}
}

// preOk answers node 0, which proposes {0, 2} with Seq 3.
func preOk(from int, bal int) impl.EMsg {
	return impl.EMsg{Kind: impl.EkPreOk, From: from, To: 0, Id: idOf(0, 2), Bal: bal, Seq: 3, Deps: depsFor(idOf(0, 2)), VBal: -1, Same: true}
}

func proposing(bal int, from ...int) impl.ENode {
	id := idOf(0, 2)
	return nodeOf(0, []impl.Inst{preInst(id, bal)}, leadOf(idOf(2, 1), 3, 3), leadOf(id, bal, 1, from...), leadOf(idOf(1, 1), 3, 2))
}

// othersOf are the Leads of proposing beside the proposal.
func othersOf(n impl.ENode) []impl.Lead {
	return []impl.Lead{n.Leads[0], n.Leads[len(n.Leads)-1]}
}

func TestPreOkOnTheFastPath(t *testing.T) {
	id := idOf(0, 2)
	for _, order := range [][2]int{{1, 2}, {2, 1}} {
		n := proposing(0)
		one, sent := does(t, "one reply", n, getCall(preOk(order[0], 0)))
		sameMsgs(t, "one reply", sent)
		sameInst(t, "one reply", one, preInst(id, 0))
		sameLeads(t, "one reply", one, n.Leads[0], leadOf(id, 0, 1, order[0]), n.Leads[2])
		two, sent := does(t, "two replies", one, getCall(preOk(order[1], 0)))
		x := preInst(id, 0)
		x.Status, x.Same = impl.EsCom, false
		sameInst(t, "two replies", two, x)
		sameLeads(t, "two replies", two, othersOf(n)...)
		sameMsgs(t, "two replies", sent,
			impl.EMsg{Kind: impl.EkCom, From: 0, To: 1, Id: id, Cmd: x.Cmd, Seq: 3, Deps: x.Deps, VBal: -1},
			impl.EMsg{Kind: impl.EkCom, From: 0, To: 2, Id: id, Cmd: x.Cmd, Seq: 3, Deps: x.Deps, VBal: -1})
	}
}

func TestPreOkWithOtherAttributes(t *testing.T) {
	id := idOf(0, 2)
	more := wantJoin(depsFor(id), []impl.Id{idOf(1, 6)})
	for _, from := range [][]int{nil, {2}} {
		for _, c := range []struct {
			what string
			seq  int
			deps []impl.Id
			same bool
			want int
			join []impl.Id
		}{
			{"a greater Seq", 5, depsFor(id), false, 5, depsFor(id)},
			{"more Deps", 3, more, false, 3, more},
			{"fewer Deps", 3, nil, false, 3, depsFor(id)},
			{"other Deps and a smaller Seq", 1, []impl.Id{idOf(1, 6)}, false, 3, more},
			{"not Same", 3, depsFor(id), false, 3, depsFor(id)},
		} {
			m := preOk(1, 0)
			m.Seq, m.Deps, m.Same = c.seq, c.deps, c.same
			n := proposing(0, from...)
			after, sent := does(t, c.what, n, getCall(m))
			sameInst(t, c.what, after, impl.Inst{Id: id, Bal: 0, VBal: 0, Status: impl.EsAcc, Cmd: readOf("a"), Seq: c.want, Deps: c.join})
			sameLeads(t, c.what, after, n.Leads[0], impl.Lead{Id: id, Bal: 0, Phase: 2, Seq: c.want, Deps: c.join}, n.Leads[2])
			sameMsgs(t, c.what, sent,
				impl.EMsg{Kind: impl.EkAcc, From: 0, To: 1, Id: id, Cmd: readOf("a"), Seq: c.want, Deps: c.join, VBal: -1},
				impl.EMsg{Kind: impl.EkAcc, From: 0, To: 2, Id: id, Cmd: readOf("a"), Seq: c.want, Deps: c.join, VBal: -1})
		}
	}
	// A reply that says Same is believed, and joined all the same.
	m := preOk(1, 0)
	m.Seq, m.Deps = 60, more
	after, sent := does(t, "Same", proposing(0), getCall(m))
	sameMsgs(t, "Same", sent)
	lead := after.Leads[1]
	if lead.Seq != 60 || !slices.Equal(lead.Deps, more) || !lead.Same || lead.Phase != 1 {
		t.Errorf("%+v", lead)
	}
	odd := proposing(0)
	odd.Leads[1].Same = false
	after, _ = does(t, "the Lead is not Same", odd, getCall(preOk(2, 0)))
	if after.Leads[1].Phase != 2 || after.Leads[1].Same {
		t.Errorf("%+v", after.Leads[1])
	}
}

func TestPreOkInALaterBallot(t *testing.T) {
	id := idOf(0, 2)
	for _, bal := range []int{1, 2, 3, 6, 600} {
		n := proposing(bal)
		after, sent := does(t, "later ballot", n, getCall(preOk(2, bal)))
		sameInst(t, "later ballot", after, impl.Inst{Id: id, Bal: bal, VBal: bal, Status: impl.EsAcc, Cmd: readOf("a"), Seq: 3, Deps: depsFor(id)})
		sameLeads(t, "later ballot", after, n.Leads[0], leadOf(id, bal, 2), n.Leads[2])
		if len(sent) != 2 || sent[0].Kind != impl.EkAcc || sent[0].Bal != bal || sent[1].To != 2 {
			t.Errorf("%+v", sent)
		}
	}
	// The first ballot is that of the Id, not that of the node.
	for rep := range 3 {
		for bal := range 4 {
			other := idOf(rep, 2)
			n := nodeOf(0, []impl.Inst{preInst(other, bal)}, leadOf(other, bal, 1))
			m := preOk(1, bal)
			m.Id, m.Deps = other, depsFor(other)
			after, sent := does(t, "first ballot", n, getCall(m))
			if fast := rep == bal; fast != (len(sent) == 0) || fast != (after.Leads[0].Phase == 1) {
				t.Errorf("%v in %d: %+v", other, bal, after)
			}
		}
	}
}

func TestPreOkAfterALaterBallot(t *testing.T) {
	id := idOf(0, 2)
	for _, c := range []struct {
		what string
		bal  int
		from []int
		same bool
	}{
		{"fast path", 0, []int{2}, true},
		{"other attributes", 0, nil, false},
		{"recovered", 3, nil, true},
	} {
		n := proposing(c.bal, c.from...)
		n.Insts[0].Bal += 4
		m := preOk(1, c.bal)
		m.Same = c.same
		after, sent := does(t, c.what, n, getCall(m))
		sameMsgs(t, c.what, sent)
		sameLeads(t, c.what, after, othersOf(n)...)
		x := preInst(id, c.bal)
		x.Bal += 4
		sameInst(t, c.what, after, x)
	}
	// The first reply on the fast path decides nothing yet.
	n := proposing(0)
	n.Insts[0].Bal = 5
	after, _ := does(t, "first reply", n, getCall(preOk(1, 0)))
	sameLeads(t, "first reply", after, n.Leads[0], leadOf(id, 0, 1, 1), n.Leads[2])
}

func TestPreOkWithoutItsLead(t *testing.T) {
	id := idOf(0, 2)
	for _, phase := range []int{1, 2, 3} {
		for _, bal := range []int{0, 3, 5, 7, 600} {
			n := nodeOf(0, []impl.Inst{preInst(id, 5)}, leadOf(id, 5, phase))
			if phase == 1 && bal == 5 {
				does(t, "EkPreOk", n, getCall(preOk(1, bal)))
			} else {
				rejects(t, "EkPreOk", n, getCall(preOk(1, bal)))
			}
		}
	}
	rejects(t, "no Lead", nodeOf(0, []impl.Inst{preInst(id, 0)}), getCall(preOk(1, 0)))
	rejects(t, "another Lead", nodeOf(0, []impl.Inst{preInst(id, 0)}, leadOf(idOf(0, 1), 0, 1)), getCall(preOk(1, 0)))
	rejects(t, "another Rep", nodeOf(0, []impl.Inst{preInst(id, 0)}, leadOf(idOf(1, 2), 0, 1)), getCall(preOk(1, 0)))
}

func TestPreOkThatArrivesTwice(t *testing.T) {
	n, _ := does(t, "offer", newNode(0), offerCall(readOf("a")))
	reply := func(from int, same bool) impl.EMsg {
		return impl.EMsg{Kind: impl.EkPreOk, From: from, To: 0, Id: idOf(0, 1), Seq: 1, VBal: -1, Same: same}
	}
	one, _ := does(t, "first", n, getCall(reply(1, true)))
	rejects(t, "in Phase 1", one, getCall(reply(1, true)))
	rejects(t, "in Phase 1, not Same", one, getCall(reply(1, false)))
	if !slices.Equal(one.Leads[0].From, []int{1}) {
		t.Errorf("%+v", one.Leads[0])
	}
	accepted, _ := does(t, "not Same", one, getCall(reply(2, false)))
	for _, m := range []impl.EMsg{reply(1, true), reply(2, false), reply(2, true)} {
		rejects(t, "in Phase 2", accepted, getCall(m))
	}
	slow, _ := does(t, "slow", one, slowCall(idOf(0, 1)))
	rejects(t, "in Phase 2, slow", slow, getCall(reply(1, true)))
	committed, _ := does(t, "fast", one, getCall(reply(2, true)))
	for _, m := range []impl.EMsg{reply(1, true), reply(2, true), reply(2, false)} {
		rejects(t, "after the Lead", committed, getCall(m))
	}
	recovering, _ := does(t, "recover", one, recoverCall(idOf(0, 1)))
	rejects(t, "in Phase 3", recovering, getCall(reply(1, true)))
	fallen, _ := does(t, "fall", one, fallCall())
	rejects(t, "after a fall", fallen, getCall(reply(1, true)))
}

// accMsg asks node 1 to accept {0, 2}.
func accMsg(bal int) impl.EMsg {
	return impl.EMsg{Kind: impl.EkAcc, From: 2, To: 1, Id: idOf(0, 2), Bal: bal, Cmd: commitOf("b"), Seq: 7, Deps: []impl.Id{idOf(1, 1)}, Status: impl.EsCom, VBal: 500, Same: true}
}

func TestAccAtEachBallotAndStatus(t *testing.T) {
	id, leads := idOf(0, 2), []impl.Lead{leadOf(idOf(0, 2), 5, 1, 0), leadOf(idOf(2, 2), 5, 3)}
	conflict := plainInst(idOf(2, 1), commitOf("b"), 60)
	for status := impl.EsNone; status <= impl.EsCom; status++ {
		for _, bal := range []int{0, 4, 5, 6, 600} {
			x := impl.Inst{Id: id, Bal: 5, VBal: 2, Status: status, Cmd: readOf("a"), Seq: 9, Deps: []impl.Id{idOf(2, 2)}, Same: true}
			if status == impl.EsNone {
				x = unsetInst(id, 5)
			}
			n := nodeOf(1, []impl.Inst{x, conflict}, leads...)
			if bal < 5 || status == impl.EsCom {
				rejects(t, "EkAcc", n, getCall(accMsg(bal)))
				continue
			}
			after, sent := does(t, "EkAcc", n, getCall(accMsg(bal)))
			// The attributes are as they were decided, whatever this node knows.
			sameInst(t, "EkAcc", after, impl.Inst{Id: id, Bal: bal, VBal: bal, Status: impl.EsAcc, Cmd: commitOf("b"), Seq: 7, Deps: []impl.Id{idOf(1, 1)}})
			sameMsgs(t, "EkAcc", sent, impl.EMsg{Kind: impl.EkAccOk, From: 1, To: 2, Id: id, Bal: bal, VBal: -1})
			sameLeads(t, "EkAcc", after, leads...)
			again, same := does(t, "EkAcc again", after, getCall(accMsg(bal)))
			if !equalNodes(after, again) || !equalMsgLists(sent, same) {
				t.Errorf("%+v and %+v", after, again)
			}
		}
	}
	after, _ := does(t, "unknown", newNode(1), getCall(accMsg(0)))
	sameInst(t, "unknown", after, impl.Inst{Id: id, Bal: 0, VBal: 0, Status: impl.EsAcc, Cmd: commitOf("b"), Seq: 7, Deps: []impl.Id{idOf(1, 1)}})
}

func accOk(from int, bal int) impl.EMsg {
	return impl.EMsg{Kind: impl.EkAccOk, From: from, To: 0, Id: idOf(0, 2), Bal: bal, VBal: -1}
}

func TestAccOkCommits(t *testing.T) {
	id := idOf(0, 2)
	for _, bal := range []int{0, 1, 3, 600} {
		for from := 1; from <= 2; from++ {
			x := impl.Inst{Id: id, Bal: bal, VBal: bal, Status: impl.EsAcc, Cmd: commitOf("b"), Seq: 3, Deps: depsFor(id)}
			n := nodeOf(0, []impl.Inst{x}, leadOf(idOf(1, 2), bal, 2), leadOf(id, bal, 2), leadOf(idOf(2, 2), bal, 2))
			after, sent := does(t, "EkAccOk", n, getCall(accOk(from, bal)))
			x.Status = impl.EsCom
			sameInst(t, "EkAccOk", after, x)
			sameLeads(t, "EkAccOk", after, n.Leads[0], n.Leads[2])
			sameMsgs(t, "EkAccOk", sent,
				impl.EMsg{Kind: impl.EkCom, From: 0, To: 1, Id: id, Cmd: x.Cmd, Seq: 3, Deps: x.Deps, VBal: -1},
				impl.EMsg{Kind: impl.EkCom, From: 0, To: 2, Id: id, Cmd: x.Cmd, Seq: 3, Deps: x.Deps, VBal: -1})
			for _, late := range []int{1, 2} {
				rejects(t, "after the Lead", after, getCall(accOk(late, bal)))
			}
		}
	}
}

func TestAccOkWithoutItsLead(t *testing.T) {
	id := idOf(0, 2)
	for _, phase := range []int{1, 2, 3} {
		for _, bal := range []int{0, 4, 5, 6, 600} {
			n := nodeOf(0, []impl.Inst{preInst(id, 5)}, leadOf(id, 5, phase))
			if phase == 2 && bal == 5 {
				does(t, "EkAccOk", n, getCall(accOk(1, bal)))
			} else {
				rejects(t, "EkAccOk", n, getCall(accOk(1, bal)))
			}
		}
	}
	rejects(t, "no Lead", nodeOf(0, []impl.Inst{preInst(id, 5)}), getCall(accOk(1, 5)))
	rejects(t, "another Lead", nodeOf(0, []impl.Inst{preInst(id, 5)}, leadOf(idOf(2, 2), 5, 2)), getCall(accOk(1, 5)))
	// Another node has begun a later ballot.
	x := preInst(id, 5)
	x.Bal = 7
	n := nodeOf(0, []impl.Inst{x}, leadOf(id, 5, 2), leadOf(idOf(2, 2), 5, 2))
	after, sent := does(t, "later ballot", n, getCall(accOk(1, 5)))
	sameMsgs(t, "later ballot", sent)
	sameInst(t, "later ballot", after, x)
	sameLeads(t, "later ballot", after, n.Leads[1])
}

func TestComOfEachStatus(t *testing.T) {
	id := idOf(0, 2)
	m := impl.EMsg{Kind: impl.EkCom, From: 0, To: 1, Id: id, Bal: 4, Cmd: commitOf("b"), Seq: 7, Deps: []impl.Id{idOf(1, 1)}, Status: impl.EsPre, VBal: 500, Same: true}
	others := []impl.Lead{leadOf(idOf(1, 2), 5, 1), leadOf(idOf(0, 1), 5, 2)}
	for status := impl.EsNone; status <= impl.EsCom; status++ {
		for _, leads := range [][]impl.Lead{nil, others, {others[0], leadOf(id, 5, 3), others[1]}, {others[0], leadOf(id, 1, 1, 2), others[1]}} {
			for _, bal := range []int{5, 600} {
				x := impl.Inst{Id: id, Bal: bal, VBal: 2, Status: status, Cmd: readOf("a"), Seq: 9, Deps: []impl.Id{idOf(2, 2)}, Same: true}
				if status == impl.EsNone {
					x = unsetInst(id, bal)
				}
				n := nodeOf(1, []impl.Inst{x}, leads...)
				if status == impl.EsCom {
					rejects(t, "EkCom", n, getCall(m))
					continue
				}
				after, sent := does(t, "EkCom", n, getCall(m))
				sameMsgs(t, "EkCom", sent)
				sameInst(t, "EkCom", after, impl.Inst{Id: id, Bal: bal, VBal: x.VBal, Status: impl.EsCom, Cmd: m.Cmd, Seq: 7, Deps: m.Deps})
				if len(leads) > 0 {
					sameLeads(t, "EkCom", after, others...)
				}
				rejects(t, "EkCom again", after, getCall(m))
			}
		}
	}
	after, _ := does(t, "unknown", newNode(1), getCall(m))
	sameInst(t, "unknown", after, impl.Inst{Id: id, Bal: -1, VBal: -1, Status: impl.EsCom, Cmd: m.Cmd, Seq: 7, Deps: m.Deps})
}

func TestPrepAtEachBallotAndStatus(t *testing.T) {
	id, leads := idOf(0, 2), []impl.Lead{leadOf(idOf(0, 2), 5, 1, 0), leadOf(idOf(2, 2), 5, 3)}
	for status := impl.EsNone; status <= impl.EsCom; status++ {
		for _, same := range []bool{false, true} {
			for _, bal := range []int{0, 4, 5, 6, 600} {
				x := impl.Inst{Id: id, Bal: 5, VBal: 2, Status: status, Cmd: commitOf("b"), Seq: 9, Deps: []impl.Id{idOf(2, 2)}, Same: same}
				if status == impl.EsNone {
					x = unsetInst(id, 5)
				}
				m := impl.EMsg{Kind: impl.EkPrep, From: 2, To: 1, Id: id, Bal: bal, Cmd: listOf(), Seq: 1, Deps: depsFor(id), Status: impl.EsAcc, VBal: 3, Same: true}
				n := nodeOf(1, []impl.Inst{x}, leads...)
				if bal <= 5 {
					rejects(t, "EkPrep", n, getCall(m))
					continue
				}
				after, sent := does(t, "EkPrep", n, getCall(m))
				x.Bal = bal
				sameInst(t, "EkPrep", after, x)
				sameLeads(t, "EkPrep", after, leads...)
				sameMsgs(t, "EkPrep", sent, impl.EMsg{Kind: impl.EkPrepOk, From: 1, To: 2, Id: id, Bal: bal, Cmd: x.Cmd, Seq: x.Seq, Deps: x.Deps, Status: status, VBal: x.VBal, Same: x.Same})
				rejects(t, "EkPrep again", after, getCall(m))
			}
		}
	}
	m := impl.EMsg{Kind: impl.EkPrep, From: 2, To: 1, Id: id, Bal: 0, VBal: -1}
	after, sent := does(t, "unknown", newNode(1), getCall(m))
	sameInst(t, "unknown", after, unsetInst(id, 0))
	sameMsgs(t, "unknown", sent, impl.EMsg{Kind: impl.EkPrepOk, From: 1, To: 2, Id: id, VBal: -1})
}

// In these tests node 0 recovers {2, 2}, of which the first ballot is 2, in
// ballot 6.
func recovering(own impl.Inst, more ...impl.Inst) impl.ENode {
	own.Id, own.Bal = idOf(2, 2), 6
	return nodeOf(0, append(more, own), leadOf(idOf(0, 1), 3, 1), impl.Lead{Id: own.Id, Bal: 6, Phase: 3}, leadOf(idOf(1, 1), 3, 2))
}

func prepOk(told impl.Inst) impl.EMsg {
	return impl.EMsg{Kind: impl.EkPrepOk, From: 1, To: 0, Id: idOf(2, 2), Bal: 6, Cmd: told.Cmd, Seq: told.Seq, Deps: told.Deps, Status: told.Status, VBal: told.VBal, Same: told.Same}
}

// ownOf and toldOf have different values in all fields.
func ownOf(status int, vbal int) impl.Inst {
	if status == impl.EsNone {
		return impl.Inst{VBal: -1}
	}
	return impl.Inst{VBal: vbal, Status: status, Cmd: commitOf("own"), Seq: 5, Deps: []impl.Id{idOf(0, 6), idOf(1, 6)}, Same: true}
}

func toldOf(status int, vbal int) impl.Inst {
	if status == impl.EsNone {
		return impl.Inst{VBal: -1}
	}
	return impl.Inst{VBal: vbal, Status: status, Cmd: commitOf("told"), Seq: 8, Deps: []impl.Id{idOf(0, 5)}, Same: true}
}

// endsRecovery plays an EkPrepOk that leads to a commit or to Phase 2 with these
// values.
func endsRecovery(t *testing.T, what string, own impl.Inst, told impl.Inst, status int, v impl.Inst) {
	t.Helper()
	id := idOf(2, 2)
	n := recovering(own)
	after, sent := does(t, what, n, getCall(prepOk(told)))
	sameInst(t, what, after, impl.Inst{Id: id, Bal: 6, VBal: 6, Status: status, Cmd: v.Cmd, Seq: v.Seq, Deps: v.Deps})
	want := impl.EMsg{Kind: impl.EkCom, From: 0, To: 1, Id: id, Cmd: v.Cmd, Seq: v.Seq, Deps: v.Deps, VBal: -1}
	if status == impl.EsCom {
		sameLeads(t, what, after, othersOf(n)...)
	} else {
		want.Kind, want.Bal = impl.EkAcc, 6
		sameLeads(t, what, after, n.Leads[0], impl.Lead{Id: id, Bal: 6, Phase: 2, Seq: v.Seq, Deps: v.Deps}, n.Leads[2])
	}
	second := want
	second.To = 2
	sameMsgs(t, what, sent, want, second)
	rejects(t, what+", again", after, getCall(prepOk(told)))
}

func TestPrepOkRule1(t *testing.T) {
	for status := impl.EsNone; status <= impl.EsCom; status++ {
		for _, vbal := range []int{0, 2, 5} {
			endsRecovery(t, "own EsCom", ownOf(impl.EsCom, 2), toldOf(status, vbal), impl.EsCom, ownOf(impl.EsCom, 2))
			if status != impl.EsCom {
				endsRecovery(t, "told EsCom", ownOf(status, 5), toldOf(impl.EsCom, vbal), impl.EsCom, toldOf(impl.EsCom, vbal))
			}
		}
	}
	// One that was told of a commit may have seen no ballot for it.
	endsRecovery(t, "told EsCom", ownOf(impl.EsAcc, 5), toldOf(impl.EsCom, -1), impl.EsCom, toldOf(impl.EsCom, -1))
}

func TestPrepOkRule2(t *testing.T) {
	for _, c := range []struct {
		own, told int
		ownValues bool
	}{
		{2, 2, true}, {5, 5, true}, {5, 2, true}, {6, 5, true}, {2, 5, false}, {0, 1, false}, {3, 600, false}, {1, 0, true},
	} {
		v := toldOf(impl.EsAcc, c.told)
		if c.ownValues {
			v = ownOf(impl.EsAcc, c.own)
		}
		endsRecovery(t, "both EsAcc", ownOf(impl.EsAcc, c.own), toldOf(impl.EsAcc, c.told), impl.EsAcc, v)
	}
	// One that is only pre-accepted does not count, whatever its VBal is.
	for _, status := range []int{impl.EsNone, impl.EsPre} {
		for _, own := range []int{0, 2, 5} {
			for _, told := range []int{0, 2, 5} {
				endsRecovery(t, "own EsAcc", ownOf(impl.EsAcc, own), toldOf(status, told), impl.EsAcc, ownOf(impl.EsAcc, own))
				endsRecovery(t, "told EsAcc", ownOf(status, own), toldOf(impl.EsAcc, told), impl.EsAcc, toldOf(impl.EsAcc, told))
			}
		}
	}
}

func TestPrepOkRule3(t *testing.T) {
	own := ownOf(impl.EsPre, 2)
	endsRecovery(t, "both as proposed", own, own, impl.EsAcc, own)
	// The command is that of I, although it is the same in any case.
	told := own
	told.Cmd = readOf("other")
	endsRecovery(t, "both as proposed", own, told, impl.EsAcc, own)
	bare := impl.Inst{VBal: 2, Status: impl.EsPre, Cmd: readOf("a"), Seq: 1, Same: true}
	endsRecovery(t, "no Deps", bare, bare, impl.EsAcc, bare)
}

// asksAnew plays an EkPrepOk after which the command is proposed anew.
func asksAnew(t *testing.T, what string, own impl.Inst, told impl.Inst, c impl.Cmd) {
	t.Helper()
	id := idOf(2, 2)
	for _, more := range [][]impl.Inst{nil, {plainInst(idOf(0, 4), commitOf("own"), 20), plainInst(idOf(1, 1), commitOf("told"), 30), plainInst(idOf(1, 2), listOf(), 10)}} {
		n := recovering(own, more...)
		seq, deps := wantAttrs(more, id, c)
		after, sent := does(t, what, n, getCall(prepOk(told)))
		sameInst(t, what, after, impl.Inst{Id: id, Bal: 6, VBal: 6, Status: impl.EsPre, Cmd: c, Seq: seq, Deps: deps, Same: true})
		sameLeads(t, what, after, n.Leads[0], impl.Lead{Id: id, Bal: 6, Phase: 1, Seq: seq, Deps: deps, Same: true}, n.Leads[2])
		want := impl.EMsg{Kind: impl.EkPre, From: 0, To: 1, Id: id, Bal: 6, Cmd: c, Seq: seq, Deps: deps, VBal: -1}
		second := want
		second.To = 2
		sameMsgs(t, what, sent, want, second)
		rejects(t, what+", again", after, getCall(prepOk(told)))
	}
}

func TestPrepOkRule4(t *testing.T) {
	own, told := ownOf(impl.EsPre, 2), toldOf(impl.EsPre, 2)
	asksAnew(t, "only I", own, toldOf(impl.EsNone, 0), own.Cmd)
	asksAnew(t, "only m", ownOf(impl.EsNone, 0), told, told.Cmd)
	asksAnew(t, "both, other attributes", own, told, own.Cmd)
	for what, change := range map[string]func(*impl.Inst){
		"not Same":   func(x *impl.Inst) { x.Same = false },
		"Seq":        func(x *impl.Inst) { x.Seq++ },
		"fewer Deps": func(x *impl.Inst) { x.Deps = x.Deps[:1] },
		"no Deps":    func(x *impl.Inst) { x.Deps = nil },
		"other Deps": func(x *impl.Inst) { x.Deps = []impl.Id{idOf(0, 6), idOf(1, 5)} },
		"VBal 5":     func(x *impl.Inst) { x.VBal = 5 },
		"VBal 1":     func(x *impl.Inst) { x.VBal = 1 },
		"VBal 0":     func(x *impl.Inst) { x.VBal = 0 },
		"VBal -1":    func(x *impl.Inst) { x.VBal = -1 },
	} {
		other := own
		change(&other)
		asksAnew(t, "m: "+what, own, other, own.Cmd)
		asksAnew(t, "I: "+what, other, own, own.Cmd)
		if !strings.Contains(what, "Deps") && what != "Seq" {
			asksAnew(t, "both: "+what, other, other, own.Cmd)
		}
	}
	// What one that is EsNone states beside that does not count.
	odd := toldOf(impl.EsPre, 2)
	odd.Status = impl.EsNone
	asksAnew(t, "values of EsNone", own, odd, own.Cmd)
	// A recovery may have ended in a CmNoop that was pre-accepted.
	noop := impl.Inst{VBal: 5, Status: impl.EsPre, Seq: 1}
	asksAnew(t, "CmNoop", noop, toldOf(impl.EsNone, 0), impl.Cmd{})
	asksAnew(t, "CmNoop", noop, told, impl.Cmd{})
	asksAnew(t, "CmNoop", ownOf(impl.EsNone, 0), noop, impl.Cmd{})
}

func TestPrepOkWhereSeqWouldBeTooGreat(t *testing.T) {
	for seq, want := range map[int]bool{58: true, 59: true, 60: false} {
		conflict := plainInst(idOf(1, 3), listOf(), seq)
		for _, n := range []impl.ENode{recovering(ownOf(impl.EsPre, 5), conflict), recovering(ownOf(impl.EsNone, 0), conflict)} {
			c := getCall(prepOk(toldOf(impl.EsPre, 2)))
			if !want {
				rejects(t, "Seq", n, c)
				continue
			}
			if after, sent := does(t, "Seq", n, c); sent[0].Seq != seq+1 || after.Leads[1].Seq != seq+1 {
				t.Errorf("%+v, %+v", after, sent)
			}
		}
		// The other rules ask nobody for attributes.
		n := recovering(ownOf(impl.EsAcc, 5), conflict)
		does(t, "rule 2", n, getCall(prepOk(toldOf(impl.EsPre, 2))))
	}
}

func TestPrepOkRule5(t *testing.T) {
	endsRecovery(t, "nothing", ownOf(impl.EsNone, 0), toldOf(impl.EsNone, 0), impl.EsAcc, impl.Inst{})
	odd := toldOf(impl.EsPre, 2)
	odd.Status = impl.EsNone
	endsRecovery(t, "values of EsNone", ownOf(impl.EsNone, 0), odd, impl.EsAcc, impl.Inst{})
	// From and the attributes of the Lead do not remain.
	n := recovering(ownOf(impl.EsNone, 0))
	n.Leads[1] = leadOf(idOf(2, 2), 6, 3, 1, 2)
	after, _ := does(t, "nothing", n, getCall(prepOk(toldOf(impl.EsNone, 0))))
	sameLeads(t, "nothing", after, n.Leads[0], impl.Lead{Id: idOf(2, 2), Bal: 6, Phase: 2, Same: true}, n.Leads[2])
}

func TestPrepOkWithoutItsLead(t *testing.T) {
	id := idOf(2, 2)
	for own := impl.EsNone; own <= impl.EsCom; own++ {
		for told := impl.EsNone; told <= impl.EsCom; told++ {
			m := prepOk(toldOf(told, 2))
			n := recovering(ownOf(own, 2))
			does(t, "EkPrepOk", n, getCall(m))
			for _, bal := range []int{0, 2, 5, 7, 9, 600} {
				other := m
				other.Bal = bal
				rejects(t, "another ballot", n, getCall(other))
				later := freshNode(n)
				if bal > 2 {
					later.Insts[0].Bal = bal
					rejects(t, "I has another ballot", later, getCall(m))
					rejects(t, "I has another ballot", later, getCall(other))
				}
			}
			for _, phase := range []int{1, 2} {
				other := freshNode(n)
				other.Leads[1] = leadOf(id, 6, phase)
				rejects(t, "another Phase", other, getCall(m))
			}
			other := freshNode(n)
			other.Leads[1].Id = idOf(2, 1)
			rejects(t, "another Lead", other, getCall(m))
			other.Leads = nil
			rejects(t, "no Lead", other, getCall(m))
		}
	}
	rejects(t, "no instance", nodeOf(0, nil, impl.Lead{Id: id, Bal: 6, Phase: 3}), getCall(prepOk(toldOf(impl.EsCom, 2))))
}

func TestRepliesThatArriveTwiceInARecovery(t *testing.T) {
	id := idOf(2, 1)
	c := readOf("a")
	n, _ := does(t, "recover", newNode(0), recoverCall(id))
	told := impl.EMsg{Kind: impl.EkPrepOk, From: 2, To: 0, Id: id, Bal: 3, Cmd: c, Seq: 1, Status: impl.EsPre, VBal: 2, Same: true}
	pre, sent := does(t, "EkPrepOk", n, getCall(told))
	if sent[0].Kind != impl.EkPre {
		t.Fatalf("%+v", sent)
	}
	rejects(t, "EkPrepOk in Phase 1", pre, getCall(told))
	fromOther := told
	fromOther.From, fromOther.Status = 1, impl.EsCom
	rejects(t, "the other's EkPrepOk in Phase 1", pre, getCall(fromOther))
	preReply := impl.EMsg{Kind: impl.EkPreOk, From: 2, To: 0, Id: id, Bal: 3, Seq: 1, VBal: -1, Same: true}
	acc, sent := does(t, "EkPreOk", pre, getCall(preReply))
	if sent[0].Kind != impl.EkAcc {
		t.Fatalf("%+v", sent)
	}
	rejects(t, "EkPrepOk in Phase 2", acc, getCall(told))
	rejects(t, "EkPreOk in Phase 2", acc, getCall(preReply))
	accReply := impl.EMsg{Kind: impl.EkAccOk, From: 2, To: 0, Id: id, Bal: 3, VBal: -1}
	rejects(t, "EkAccOk in Phase 1", pre, getCall(accReply))
	rejects(t, "EkAccOk in Phase 3", n, getCall(accReply))
	com, sent := does(t, "EkAccOk", acc, getCall(accReply))
	if sent[0].Kind != impl.EkCom || len(com.Leads) != 0 {
		t.Fatalf("%+v, %+v", com, sent)
	}
	for _, m := range []impl.EMsg{told, fromOther, preReply, accReply} {
		rejects(t, "after the Lead", com, getCall(m))
	}
	// A second recovery has another ballot.
	second, _ := does(t, "recover again", acc, recoverCall(id))
	for _, m := range []impl.EMsg{told, preReply, accReply} {
		rejects(t, "of the first recovery", second, getCall(m))
	}
}

func TestGetOfAMessageForAnother(t *testing.T) {
	for me := range 3 {
		n := nodeOf(me, []impl.Inst{preInst(idOf(1, 2), 4)}, leadOf(idOf(1, 2), 4, 1))
		for kind := 1; kind <= 7; kind++ {
			for from := range 3 {
				for to := range 3 {
					m := impl.EMsg{Kind: kind, From: from, To: to, Id: idOf(1, 2), Bal: 4, Cmd: readOf("a"), Seq: 3, VBal: -1}
					if from == to || to != me {
						rejects(t, "another", n, getCall(m))
						continue
					}
					end := try(t, n, getCall(m))
					if want := kind != impl.EkAccOk && kind != impl.EkPrep && kind != impl.EkPrepOk; end.ok != want {
						t.Errorf("%+v: %v", m, end.ok)
					}
				}
			}
		}
	}
}

func TestGetOfAnIdThatIsNotGivenOut(t *testing.T) {
	for me := range 3 {
		for next := 1; next <= 7; next++ {
			for _, id := range allIds() {
				n := impl.ENode{Me: me, Next: next, Leads: []impl.Lead{{Id: id, Bal: 9, Phase: 1 + next%3}}}
				for kind := 1; kind <= 7; kind++ {
					m := impl.EMsg{Kind: kind, From: (me + 1) % 3, To: me, Id: id, Bal: 9, Cmd: readOf("a"), Seq: 3, Status: kind % 4, VBal: -1}
					end := try(t, n, getCall(m))
					if id.Rep == me && id.Slot >= next {
						rejects(t, "not given out", n, getCall(m))
					} else if asks := kind%2 == 1 && kind != impl.EkPrepOk || kind == impl.EkPrep; asks && !end.ok {
						t.Errorf("node %d with Next %d rejects %+v", me, next, m)
					}
				}
			}
		}
	}
}

func TestFunctionsOfAnInvalidNode(t *testing.T) {
	var invalid []impl.ENode
	for _, change := range []func(*impl.ENode){
		func(n *impl.ENode) { n.Me = 3 },
		func(n *impl.ENode) { n.Me = -1 },
		func(n *impl.ENode) { n.Next = 0 },
		func(n *impl.ENode) { n.Next = 8 },
		func(n *impl.ENode) { n.Next = 3 },
		func(n *impl.ENode) { n.Insts[0].Seq = 61 },
		func(n *impl.ENode) { n.Insts[1], n.Insts[2] = n.Insts[2], n.Insts[1] },
		func(n *impl.ENode) { n.Leads[0].Phase = 0 },
		func(n *impl.ENode) { n.Leads[2].Id = n.Leads[0].Id },
		func(n *impl.ENode) { n.Leads[1].From = []int{2, 1} },
		func(n *impl.ENode) { n.Leads = append(n.Leads, manyLeads(8, impl.Id{})...) },
	} {
		n := baseNode()
		change(&n)
		invalid = append(invalid, n)
	}
	for _, n := range invalid {
		if impl.ENodeOk(n) {
			t.Errorf("%+v is valid", n)
		}
		for _, c := range everyCall(n) {
			returnsZero(t, "invalid node", n, c)
		}
	}
}

// A value that was accepted in a recovery, and committed, is found again by the
// next one, although it finds one with the same VBal that was only pre-accepted.
func TestRecoveryFindsWhatIsCommitted(t *testing.T) {
	id, c := idOf(0, 1), readOf("a")
	n0, asked := does(t, "offer", newNode(0), offerCall(c))
	n1, _ := does(t, "something else", newNode(1), offerCall(readOf("a")))
	n2, _ := does(t, "EkPre", newNode(2), getCall(asked[1]))
	n0, _ = does(t, "fall", n0, fallCall())
	n2, prep := does(t, "recover", n2, recoverCall(id))
	n1, told := does(t, "EkPrep", n1, getCall(prep[1]))
	n2, pre := does(t, "EkPrepOk", n2, getCall(told[0]))
	n1, _ = does(t, "EkPre", n1, getCall(pre[1]))
	n0, _ = does(t, "EkPrep", n0, getCall(prep[0]))
	n0, ok := does(t, "EkPre", n0, getCall(pre[0]))
	n2, acc := does(t, "EkPreOk", n2, getCall(ok[0]))
	n0, ok = does(t, "EkAcc", n0, getCall(acc[0]))
	n2, _ = does(t, "EkAccOk", n2, getCall(ok[0]))
	committed := wantInstAt(n2.Insts, id)
	if x := wantInstAt(n1.Insts, id); committed.Status != impl.EsCom || x.Status != impl.EsPre || x.VBal != 5 || x.Seq == committed.Seq {
		t.Fatalf("%+v and %+v", committed, x)
	}
	n1, prep = does(t, "recover", n1, recoverCall(id))
	_, told = does(t, "EkPrep", n0, getCall(prep[0]))
	n1, acc = does(t, "EkPrepOk", n1, getCall(told[0]))
	x := wantInstAt(n1.Insts, id)
	if x.Status != impl.EsAcc || x.Seq != committed.Seq || !slices.Equal(x.Deps, committed.Deps) || acc[0].Kind != impl.EkAcc {
		t.Errorf("%+v, committed was %+v", x, committed)
	}
}

// anyNode is a valid node, more or less at random: ballots and attributes often
// fit each other, as they do in a node that has come about by calls.
func anyNode(r *lcg) impl.ENode {
	n := impl.ENode{Me: r.below(3), Next: 1 + r.below(7)}
	for _, id := range allIds() {
		if r.below(3) != 0 && (id.Rep != n.Me || id.Slot < n.Next) {
			n.Insts = append(n.Insts, anyNodeInst(r, id))
		}
	}
	for range r.below(10) {
		l := anyLead(r, n)
		if len(n.Leads) < 8 && !slices.ContainsFunc(n.Leads, func(other impl.Lead) bool { return other.Id == l.Id }) {
			n.Leads = append(n.Leads, l)
		}
	}
	return n
}

func anyNodeInst(r *lcg, id impl.Id) impl.Inst {
	x := anyInst(r, id)
	if r.below(2) == 0 {
		x.Bal = []int{-1, id.Rep, id.Rep, 3, 4, 5, 6, 598, 600}[r.below(9)]
	}
	x.VBal = min(x.VBal, x.Bal)
	if x.Status != impl.EsNone && r.below(2) == 0 {
		x.VBal = min(x.Bal, id.Rep)
	}
	if x.Status != impl.EsNone {
		x.Seq = []int{r.below(9), r.below(9), r.below(9), 59, 60, r.below(61)}[r.below(6)]
	}
	return x
}

func anyDeps(r *lcg, id impl.Id) []impl.Id {
	return wantOfAll(func(other impl.Id) bool { return other != id && r.below(5) == 0 })
}

func anyLead(r *lcg, n impl.ENode) impl.Lead {
	id := allIds()[r.below(18)]
	if len(n.Insts) > 0 && r.below(8) != 0 {
		id = n.Insts[r.below(len(n.Insts))].Id
	}
	l := impl.Lead{Id: id, Bal: r.below(601), Phase: 1 + r.below(3), Seq: r.below(61), Deps: anyDeps(r, id), Same: r.below(3) != 0}
	x := wantInstAt(n.Insts, id)
	if r.below(4) != 0 {
		l.Bal = max(x.Bal, 0)
	}
	if r.below(3) == 0 {
		l.Seq, l.Deps = x.Seq, x.Deps
	}
	for node := range 3 {
		if node != n.Me && r.below(3) == 0 || r.below(40) == 0 {
			l.From = append(l.From, node)
		}
	}
	return l
}

// anyMsg is a message of which most fit to something that the node has.
func anyMsg(r *lcg, n impl.ENode) impl.EMsg {
	id := allIds()[r.below(18)]
	m := impl.EMsg{Kind: 1 + r.below(7), To: n.Me, From: (n.Me + 1 + r.below(2)) % 3, Bal: r.below(601)}
	if len(n.Leads) > 0 && r.below(3) != 0 {
		l := n.Leads[r.below(len(n.Leads))]
		id, m.Bal = l.Id, l.Bal
		if r.below(4) != 0 {
			m.Kind = []int{impl.EkPreOk, impl.EkAccOk, impl.EkPrepOk}[l.Phase-1]
		}
	} else if len(n.Insts) > 0 && r.below(4) != 0 {
		x := n.Insts[r.below(len(n.Insts))]
		id, m.Bal = x.Id, max(0, min(600, x.Bal+r.below(3)-1))
	}
	m.Id, m.Cmd, m.Seq, m.Deps, m.Same = id, validCmds()[r.below(16)], r.below(61), anyDeps(r, id), r.below(3) != 0
	m.Status, m.VBal = r.below(4), r.below(602)-1
	x := wantInstAt(n.Insts, id)
	if r.below(2) == 0 {
		m.VBal = []int{id.Rep, x.VBal}[r.below(2)]
	}
	if r.below(2) == 0 {
		m.Seq, m.Deps, m.Cmd = x.Seq, x.Deps, x.Cmd
	}
	if r.below(3) == 0 {
		m.Status = x.Status
	}
	return m
}

// spoilMsg makes a message invalid, or one that nobody has sent.
func spoilMsg(r *lcg, m impl.EMsg) impl.EMsg {
	numbers := []int{-2, -1, 0, 1, 2, 3, 4, 8, 61, 601, math.MinInt, math.MaxInt}
	field := []*int{&m.Kind, &m.From, &m.To, &m.Id.Rep, &m.Id.Slot, &m.Bal, &m.Seq, &m.Status, &m.VBal}[r.below(9)]
	*field = numbers[r.below(len(numbers))]
	if r.below(4) == 0 {
		m.Deps = append(slices.Clone(m.Deps), m.Id)
	}
	if r.below(4) == 0 {
		m.Cmd = invalidCmds()[r.below(len(invalidCmds()))]
	}
	return m
}

func anyCall(r *lcg, n impl.ENode) nodeCall {
	id := allIds()[r.below(18)]
	if len(n.Leads) > 0 && r.below(2) == 0 {
		id = n.Leads[r.below(len(n.Leads))].Id
	}
	switch r.below(16) {
	case 0, 1:
		return offerCall(validCmds()[r.below(16)])
	case 2:
		return offerCall(invalidCmds()[r.below(len(invalidCmds()))])
	case 3:
		return slowCall(id)
	case 4, 5:
		return recoverCall(id)
	case 6:
		return []nodeCall{fallCall(), slowCall(otherIds()[r.below(14)]), recoverCall(otherIds()[r.below(14)])}[r.below(3)]
	case 7:
		return getCall(spoilMsg(r, anyMsg(r, n)))
	}
	return getCall(anyMsg(r, n))
}

// sentences are all ends of a call of a valid node that the chapter knows.
func sentences() []string {
	out := []string{
		"offer", "offer: invalid", "offer: CmNoop", "offer: no Slot", "offer: no Lead", "offer: Seq",
		"slow: Phase", "slow: From", "slow: accepted", "slow: not accepted",
		"recover", "recover: Id", "recover: EsCom", "recover: Next", "recover: Bal", "recover: Leads", "fall",
		"get: invalid", "get: To", "get: Next",
		"EkPre: Bal", "EkPre: Status", "EkPre: Seq", "EkPre: unchanged", "EkPre: same", "EkPre: other",
		"EkPreOk: no Lead", "EkPreOk: twice", "EkPreOk: first",
		"EkPreOk: later ballot: accepted", "EkPreOk: later ballot: not accepted", "EkPreOk: not Same: accepted", "EkPreOk: not Same: not accepted",
		"EkPreOk: fast: committed", "EkPreOk: fast: not committed",
		"EkAcc", "EkAcc: Bal", "EkAcc: Status", "EkAccOk: no Lead", "EkAccOk: committed", "EkAccOk: not committed",
		"EkCom: Status", "EkCom: no Lead", "EkCom: Lead", "EkPrep", "EkPrep: Bal",
		"EkPrepOk: no Lead", "EkPrepOk: Bal", "EkPrepOk: Seq",
		"EkPrepOk: 1 own: committed", "EkPrepOk: 1 told: committed",
		"EkPrepOk: 2 own: accepted", "EkPrepOk: 2 told: accepted", "EkPrepOk: 2 own of two: accepted", "EkPrepOk: 2 told of two: accepted",
		"EkPrepOk: 3 own: accepted", "EkPrepOk: 4 own", "EkPrepOk: 4 told", "EkPrepOk: 5 nobody: accepted",
	}
	slices.Sort(out)
	return out
}

func TestNodesOfAllKinds(t *testing.T) {
	seen := map[string]int{}
	for seed := range 2500 {
		r := lcg(seed + 7)
		n := anyNode(&r)
		for range 10 {
			end := try(t, n, anyCall(&r, n))
			seen[end.how]++
			n = end.node
		}
	}
	for _, how := range sentences() {
		if seen[how] == 0 {
			t.Errorf("%q does not occur", how)
		}
		delete(seen, how)
	}
	for how := range seen {
		t.Errorf("%q occurs", how)
	}
}

// threeNodes are nodes with the messages that were ever sent among them.
type threeNodes struct {
	nodes [3]impl.ENode
	pool  []impl.EMsg
	ids   []impl.Id
	// Some messages arrive as nobody has sent them.
	forged bool
}

func newThree(forged bool) *threeNodes {
	return &threeNodes{nodes: [3]impl.ENode{newNode(0), newNode(1), newNode(2)}, forged: forged}
}

// act makes a call of one node, whatever comes of it; messages stay in the pool,
// so that they arrive late, several times or never.
func (x *threeNodes) act(t *testing.T, r *lcg) string {
	t.Helper()
	at := r.below(3)
	id := idOf(r.below(3), 1+r.below(7))
	if len(x.ids) > 0 && r.below(5) != 0 {
		id = x.ids[r.below(len(x.ids))]
	}
	var call nodeCall
	switch kind := r.below(40); {
	case kind < 3 && len(x.ids) < 8:
		call = offerCall(validCmds()[r.below(16)])
	case kind < 4:
		call = slowCall(id)
	case kind < 6:
		call = recoverCall(id)
	case kind < 7 && r.below(3) == 0:
		call = fallCall()
	case len(x.pool) == 0:
		return "nothing"
	default:
		from := 0
		if r.below(2) == 0 {
			from = max(0, len(x.pool)-12)
		}
		m := x.pool[from+r.below(len(x.pool)-from)]
		at = m.To
		if x.forged && r.below(10) == 0 {
			m = spoilMsg(r, m)
		}
		call = getCall(m)
	}
	end := try(t, x.nodes[at], call)
	if call.name == "ENodeOffer" && end.ok {
		x.ids = append(x.ids, idOf(at, end.node.Next-1))
	}
	x.nodes[at] = end.node
	x.pool = append(x.pool, end.sent...)
	return end.how
}

// check also tells that no calls from ENodeNew on lead to a Lead of an instance
// that is EsCom, or of an Id that is not given out.
func (x *threeNodes) check(t *testing.T, before [3]impl.ENode) {
	t.Helper()
	for i, n := range x.nodes {
		if n.Me != i || !impl.ENodeOk(n) {
			t.Fatalf("node %d: %+v", i, n)
		}
		for _, l := range n.Leads {
			y := wantInstAt(n.Insts, l.Id)
			if y.Status == impl.EsCom || l.Id.Rep == i && l.Id.Slot >= n.Next || slices.Contains(l.From, i) {
				t.Fatalf("node %d has the Lead %+v of %+v", i, l, y)
			}
		}
		for _, old := range before[i].Insts {
			y := wantInstAt(n.Insts, old.Id)
			if old.Status == impl.EsCom && !committedAlike(old, y) || y.Bal < old.Bal || y.VBal < old.VBal {
				t.Fatalf("node %d: %+v has become %+v", i, old, y)
			}
		}
	}
}

// agrees tells that what is committed is the same at all nodes, and that of two
// commands that conflict one depends on the other.
func (x *threeNodes) agrees(t *testing.T) int {
	t.Helper()
	committed := map[impl.Id]impl.Inst{}
	for _, n := range x.nodes {
		for _, y := range n.Insts {
			if y.Status != impl.EsCom {
				continue
			}
			if z, found := committed[y.Id]; found && (!equalCmds(y.Cmd, z.Cmd) || y.Seq != z.Seq || !slices.Equal(y.Deps, z.Deps)) {
				t.Fatalf("committed are %+v and %+v", y, z)
			}
			committed[y.Id] = y
		}
	}
	for a, y := range committed {
		for b, z := range committed {
			if a != b && wantClash(y.Cmd, z.Cmd) && !slices.Contains(y.Deps, b) && !slices.Contains(z.Deps, a) {
				t.Fatalf("no dependency between %+v and %+v", y, z)
			}
		}
	}
	return len(committed)
}

func TestThreeNodesAnySequence(t *testing.T) {
	seen, committed := map[string]int{}, 0
	for seed := range 150 {
		r := lcg(seed + 4000)
		x := newThree(seed%4 == 3)
		for range 250 {
			before := x.nodes
			seen[x.act(t, &r)]++
			x.check(t, before)
		}
		if !x.forged {
			committed += x.agrees(t)
		}
	}
	if committed < 150 {
		t.Errorf("only %d instances are committed", committed)
	}
	for _, how := range []string{"EkPreOk: fast: committed", "EkPreOk: twice", "EkAccOk: committed", "EkCom: Lead", "EkPre: unchanged", "EkPrepOk: 3 own: accepted", "EkPrepOk: 4 told", "EkPrepOk: 5 nobody: accepted", "EkPrepOk: 2 told: accepted", "EkPrepOk: 1 told: committed"} {
		if seen[how] == 0 {
			t.Errorf("%q does not occur", how)
		}
	}
}

// All messages are delivered once, in some order, and nothing else happens: then
// all nodes know the same of all commands in the end.
func TestThreeNodesWithoutFaults(t *testing.T) {
	for seed := range 60 {
		r := lcg(seed + 99)
		x := newThree(false)
		cmds := []impl.Cmd{readOf("a"), commitOf("a"), listOf(), readOf("b"), commitOf("b")}
		for i := 0; i < len(cmds) || len(x.pool) > 0; {
			if i < len(cmds) && (len(x.pool) == 0 || r.below(4) == 0) {
				at := r.below(3)
				node, sent := does(t, "offer", x.nodes[at], offerCall(cmds[i]))
				x.nodes[at], x.pool = node, append(x.pool, sent...)
				i++
				continue
			}
			at := r.below(len(x.pool))
			m := x.pool[at]
			x.pool = slices.Delete(x.pool, at, at+1)
			end := try(t, x.nodes[m.To], getCall(m))
			x.nodes[m.To], x.pool = end.node, append(x.pool, end.sent...)
		}
		if got := x.agrees(t); got != len(cmds) {
			t.Errorf("%d of %d are committed", got, len(cmds))
		}
		for _, n := range x.nodes {
			if len(n.Insts) != len(cmds) || len(n.Leads) != 0 || slices.ContainsFunc(n.Insts, func(y impl.Inst) bool { return y.Status != impl.EsCom }) {
				t.Errorf("%+v", n)
			}
		}
	}
}

// nodeParts are all strings and lists of some nodes, messages and commands.
type nodeParts struct {
	texts  []string
	chunks [][]string
	ids    [][]impl.Id
	from   [][]int
	insts  [][]impl.Inst
	leads  [][]impl.Lead
	msgs   [][]impl.EMsg
}

func (p *nodeParts) addCmd(c impl.Cmd) {
	p.texts = append(append(p.texts, c.Set, c.Name, c.Tag), c.Chunks...)
	p.chunks = append(p.chunks, c.Chunks)
}

func (p *nodeParts) addNode(n impl.ENode) {
	p.insts, p.leads = append(p.insts, n.Insts), append(p.leads, n.Leads)
	for _, x := range n.Insts {
		p.addCmd(x.Cmd)
		p.ids = append(p.ids, x.Deps)
	}
	for _, l := range n.Leads {
		p.ids, p.from = append(p.ids, l.Deps), append(p.from, l.From)
	}
}

func (p *nodeParts) addMsgs(l []impl.EMsg) {
	p.msgs = append(p.msgs, l)
	for _, m := range l {
		p.addCmd(m.Cmd)
		p.ids = append(p.ids, m.Deps)
	}
}

func listsApart[T any](t *testing.T, what string, lists [][]T) {
	t.Helper()
	for i, a := range lists {
		for j, b := range lists[:i] {
			if shareSlots(a, b) {
				t.Fatalf("%s: %+v (%d) shares memory with %+v (%d)", what, a, i, b, j)
			}
		}
	}
}

func (p *nodeParts) apart(t *testing.T, what string) {
	t.Helper()
	apart(t, what, p.texts)
	listsApart(t, what, p.chunks)
	listsApart(t, what, p.ids)
	listsApart(t, what, p.from)
	listsApart(t, what, p.insts)
	listsApart(t, what, p.leads)
	listsApart(t, what, p.msgs)
}

// memoryCase is a node and a call, with everything that they hold.
type memoryCase struct {
	what string
	node impl.ENode
	call func(c impl.Cmd, m impl.EMsg) nodeCall
	cmd  impl.Cmd
	msg  impl.EMsg
}

// memoryCases have lists and texts in every place of the node and of the
// messages that are sent.
func memoryCases() []memoryCase {
	offer := func(c impl.Cmd, m impl.EMsg) nodeCall { return offerCall(c) }
	get := func(c impl.Cmd, m impl.EMsg) nodeCall { return getCall(m) }
	id := idOf(0, 2)
	rich := func(n impl.ENode) impl.ENode {
		for i := range n.Insts {
			if n.Insts[i].Status != impl.EsNone {
				n.Insts[i].Cmd = commitOf("abc")
			}
		}
		n.Insts = append(n.Insts, impl.Inst{Id: idOf(2, 6), Bal: 3, VBal: 3, Status: impl.EsCom, Cmd: commitOf("abc"), Seq: 2, Deps: allIds()[:3]})
		return n
	}
	ask := preMsg(0)
	ask.Cmd = commitOf("abc")
	again, _, _ := impl.ENodeGet(rich(nodeOf(1, nil, leadOf(idOf(1, 1), 1, 1, 0, 2))), ask)
	notSame := preOk(1, 0)
	notSame.Same = false
	committed := accMsg(600)
	committed.Kind = impl.EkCom
	prepare := accMsg(600)
	prepare.Kind = impl.EkPrep
	slow := func(c impl.Cmd, m impl.EMsg) nodeCall { return slowCall(id) }
	recover := func(c impl.Cmd, m impl.EMsg) nodeCall { return recoverCall(id) }
	cases := []memoryCase{
		{what: "offer", node: rich(impl.ENode{Me: 0, Next: 2, Leads: proposing(0, 1).Leads[:1]}), call: offer, cmd: commitOf("abc")},
		{what: "offer rejected", node: rich(proposing(0, 1)), call: offer, cmd: commitOf("abc")},
		{what: "slow", node: rich(proposing(0, 1)), call: slow},
		{what: "slow rejected", node: rich(proposing(0)), call: slow},
		{what: "recover", node: rich(proposing(0, 1)), call: recover},
		{what: "fall", node: rich(proposing(0, 1)), call: func(impl.Cmd, impl.EMsg) nodeCall { return fallCall() }},
		{what: "EkPre", node: rich(nodeOf(1, nil, leadOf(idOf(1, 1), 1, 1, 0, 2))), call: get, msg: ask},
		{what: "EkPre again", node: again, call: get, msg: ask},
		{what: "EkPreOk first", node: rich(proposing(0)), call: get, msg: preOk(1, 0)},
		{what: "EkPreOk fast", node: rich(proposing(0, 2)), call: get, msg: preOk(1, 0)},
		{what: "EkPreOk slow", node: rich(proposing(0, 2)), call: get, msg: notSame},
		{what: "EkPreOk twice", node: rich(proposing(0, 1)), call: get, msg: preOk(1, 0)},
		{what: "EkAcc", node: rich(nodeOf(1, nil)), call: get, msg: accMsg(600)},
		{what: "EkAccOk", node: rich(nodeOf(0, []impl.Inst{preInst(id, 0)}, leadOf(id, 0, 2, 1))), call: get, msg: accOk(1, 0)},
		{what: "EkCom", node: rich(nodeOf(1, nil)), call: get, msg: committed},
		{what: "EkPrep", node: rich(nodeOf(1, []impl.Inst{preInst(id, 0)})), call: get, msg: prepare},
	}
	for own := impl.EsNone; own <= impl.EsCom; own++ {
		for told := impl.EsNone; told <= impl.EsCom; told++ {
			cases = append(cases, memoryCase{what: "EkPrepOk", node: rich(recovering(ownOf(own, 2))), call: get, msg: prepOk(toldOf(told, 3))})
		}
	}
	same := ownOf(impl.EsPre, 2)
	same.Cmd = commitOf("abc")
	return append(cases, memoryCase{what: "EkPrepOk, rule 3", node: rich(recovering(same)), call: get, msg: prepOk(same)})
}

func TestNodeFunctionsShareNoMemory(t *testing.T) {
	for _, c := range memoryCases() {
		n, cmd, m := freshNode(c.node), freshCmd(c.cmd), freshMsg(c.msg)
		if !impl.ENodeOk(n) {
			t.Fatalf("%s: %+v is invalid", c.what, n)
		}
		call := c.call(cmd, m)
		var parts nodeParts
		parts.addNode(n)
		parts.addCmd(cmd)
		parts.addMsgs([]impl.EMsg{m})
		for range 2 {
			node, sent, _ := call.made(n)
			parts.addNode(node)
			parts.addMsgs(sent)
		}
		parts.apart(t, c.what)
		try(t, n, call)
	}
}

// sharing has one list and one text in several places.
func sharing() (impl.ENode, impl.Cmd, []impl.Id) {
	text := strings.Repeat("s", 4)
	deps, chunks, from := []impl.Id{idOf(0, 6), idOf(1, 6)}, []string{idA, idA}, []int{1}
	c := impl.Cmd{Kind: impl.CmCommit, Client: 1, No: 1, Set: text, Name: text, Chunks: chunks}
	x := impl.Inst{Id: idOf(0, 1), Bal: 0, VBal: 0, Status: impl.EsPre, Cmd: c, Seq: 2, Deps: deps, Same: true}
	y := x
	y.Id, y.Bal = idOf(2, 2), 6
	l := impl.Lead{Id: x.Id, Bal: 0, Phase: 1, Seq: 2, Deps: deps, From: from, Same: true}
	k := impl.Lead{Id: y.Id, Bal: 6, Phase: 3, Seq: 2, Deps: deps, From: from}
	return impl.ENode{Me: 0, Next: 3, Insts: []impl.Inst{x, y}, Leads: []impl.Lead{l, k}}, c, deps
}

func TestNodeFunctionsSeparateWhatAnArgumentShares(t *testing.T) {
	n, c, deps := sharing()
	calls := []nodeCall{fallCall(), offerCall(c), offerCall(impl.Cmd{}), slowCall(idOf(0, 1)), slowCall(idOf(2, 2)), recoverCall(idOf(0, 1)), recoverCall(idOf(2, 3))}
	for kind := 1; kind <= 7; kind++ {
		for status := range 4 {
			for _, id := range []impl.Id{idOf(0, 1), idOf(2, 2), idOf(1, 1)} {
				for _, bal := range []int{0, 6, 7} {
					calls = append(calls, getCall(impl.EMsg{Kind: kind, From: 2, To: 0, Id: id, Bal: bal, Cmd: c, Seq: 2, Deps: deps, Status: status, VBal: 2, Same: true}))
				}
			}
		}
	}
	for _, call := range calls {
		end := try(t, n, call)
		node, sent, _ := call.made(n)
		var parts nodeParts
		parts.addNode(end.node)
		parts.addMsgs(end.sent)
		parts.addNode(node)
		parts.addMsgs(sent)
		parts.texts, parts.ids, parts.chunks, parts.from = append(parts.texts, c.Set), append(parts.ids, deps), append(parts.chunks, c.Chunks), append(parts.from, n.Leads[0].From)
		parts.apart(t, call.name)
	}
}

// withRoom gives a list unused capacity with something in it.
func withRoom[T any](l []T, spare T) []T {
	return append(slices.Clone(l), spare, spare, spare)[:len(l)]
}

func roomyCmd(c impl.Cmd) impl.Cmd {
	c.Chunks = withRoom(c.Chunks, "spare---")
	return c
}

func roomyNode(n impl.ENode) impl.ENode {
	n = freshNode(n)
	for i, x := range n.Insts {
		n.Insts[i].Deps, n.Insts[i].Cmd = withRoom(x.Deps, idOf(9, 9)), roomyCmd(x.Cmd)
	}
	for i, l := range n.Leads {
		n.Leads[i].Deps, n.Leads[i].From = withRoom(l.Deps, idOf(9, 9)), withRoom(l.From, 9)
	}
	n.Insts, n.Leads = withRoom(n.Insts, setInst(idOf(2, 6))), withRoom(n.Leads, leadOf(idOf(2, 6), 9, 3, 1))
	return n
}

// wholeCmd and wholeNode show lists with their unused capacity.
func wholeCmd(c impl.Cmd) impl.Cmd {
	c.Chunks = slices.Clone(c.Chunks[:cap(c.Chunks)])
	return c
}

func wholeNode(n impl.ENode) impl.ENode {
	n.Insts, n.Leads = slices.Clone(n.Insts[:cap(n.Insts)]), slices.Clone(n.Leads[:cap(n.Leads)])
	for i, x := range n.Insts {
		n.Insts[i].Deps, n.Insts[i].Cmd = slices.Clone(x.Deps[:cap(x.Deps)]), wholeCmd(x.Cmd)
	}
	for i, l := range n.Leads {
		n.Leads[i].Deps, n.Leads[i].From = slices.Clone(l.Deps[:cap(l.Deps)]), slices.Clone(l.From[:cap(l.From)])
	}
	return n
}

func TestNodeFunctionsChangeNoArgument(t *testing.T) {
	cases := memoryCases()
	for seed := range 200 {
		r := lcg(seed + 31)
		n := anyNode(&r)
		m := anyMsg(&r, n)
		cases = append(cases, memoryCase{what: "any", node: n, msg: m, call: func(c impl.Cmd, m impl.EMsg) nodeCall { return getCall(m) }})
	}
	for _, c := range cases {
		n, cmd, m := roomyNode(c.node), roomyCmd(c.cmd), c.msg
		m.Cmd, m.Deps = roomyCmd(m.Cmd), withRoom(m.Deps, idOf(9, 9))
		node, command, msgCmd, msgDeps := wholeNode(n), wholeCmd(cmd), wholeCmd(m.Cmd), slices.Clone(m.Deps[:cap(m.Deps)])
		calls := append(everyCall(n), c.call(cmd, m), offerCall(cmd), getCall(m))
		for _, call := range calls {
			call.made(n)
		}
		impl.ENodeOk(n)
		impl.EMsgOk(m)
		if !reflect.DeepEqual(wholeNode(n), node) {
			t.Errorf("%s: the node has become %+v, it was %+v", c.what, wholeNode(n), node)
		}
		if !reflect.DeepEqual(wholeCmd(cmd), command) || !reflect.DeepEqual(wholeCmd(m.Cmd), msgCmd) || !slices.Equal(m.Deps[:cap(m.Deps)], msgDeps) {
			t.Errorf("%s: the command or the message has become %+v, %+v", c.what, cmd, m)
		}
	}
}

func TestNodeFunctionsKeepNoState(t *testing.T) {
	for seed := range 60 {
		r := lcg(seed + 500)
		n := anyNode(&r)
		calls := append(everyCall(n), getCall(anyMsg(&r, n)))
		var first []plainEnd
		for _, c := range calls {
			first = append(first, try(t, n, c))
		}
		other := anyNode(&r)
		for _, c := range everyCall(other) {
			try(t, other, c)
		}
		for i, c := range calls {
			again := try(t, n, c)
			if again.ok != first[i].ok || !equalNodes(again.node, first[i].node) || !equalMsgLists(again.sent, first[i].sent) {
				t.Errorf("%s with %+v has another result later", c.name, c.with)
			}
		}
	}
}
