package tests

import (
	"reflect"
	"slices"
	"testing"

	"loop.example/g00954/impl"
)

// wantMsgOk goes through the conditions in the order of the chapter.
func wantMsgOk(m impl.EMsg) bool {
	if m.Kind < 1 || m.Kind > 7 || m.From == m.To || m.From < 0 || m.From > 2 || m.To < 0 || m.To > 2 {
		return false
	}
	if idNumber(m.Id) < 0 || m.Bal < 0 || m.Bal > 600 || !wantCmdOk(m.Cmd) || m.Seq < 0 || m.Seq > 60 {
		return false
	}
	if !wantIdsOk(m.Deps) || slices.Contains(m.Deps, m.Id) {
		return false
	}
	return m.Status >= 0 && m.Status <= 3 && m.VBal >= -1 && m.VBal <= 600
}

func wantLeadOk(l impl.Lead) bool {
	last := -1
	for _, node := range l.From {
		if node <= last || node > 2 {
			return false
		}
		last = node
	}
	if idNumber(l.Id) < 0 || l.Bal < 0 || l.Bal > 600 || l.Phase < 1 || l.Phase > 3 || l.Seq < 0 || l.Seq > 60 {
		return false
	}
	return wantIdsOk(l.Deps) && !slices.Contains(l.Deps, l.Id)
}

func wantNodeOk(n impl.ENode) bool {
	if n.Me < 0 || n.Me > 2 || n.Next < 1 || n.Next > 7 || len(n.Leads) > 8 || !wantInstsOk(n.Insts) {
		return false
	}
	for _, x := range n.Insts {
		if x.Id.Rep == n.Me && x.Id.Slot >= n.Next {
			return false
		}
	}
	led := map[impl.Id]int{}
	for _, l := range n.Leads {
		led[l.Id]++
		if !wantLeadOk(l) || led[l.Id] > 1 {
			return false
		}
	}
	return true
}

func equalMsgs(a impl.EMsg, b impl.EMsg) bool {
	same := equalCmds(a.Cmd, b.Cmd) && slices.Equal(a.Deps, b.Deps)
	a.Cmd, b.Cmd, a.Deps, b.Deps = impl.Cmd{}, impl.Cmd{}, nil, nil
	return same && reflect.DeepEqual(a, b)
}

func equalMsgLists(a []impl.EMsg, b []impl.EMsg) bool {
	return slices.EqualFunc(a, b, equalMsgs)
}

func equalLeads(a impl.Lead, b impl.Lead) bool {
	same := slices.Equal(a.Deps, b.Deps) && slices.Equal(a.From, b.From)
	a.Deps, b.Deps, a.From, b.From = nil, nil, nil, nil
	return same && reflect.DeepEqual(a, b)
}

func equalNodes(a impl.ENode, b impl.ENode) bool {
	return a.Me == b.Me && a.Next == b.Next && equalInstLists(a.Insts, b.Insts) && slices.EqualFunc(a.Leads, b.Leads, equalLeads)
}

func freshCmd(c impl.Cmd) impl.Cmd {
	return freshInst(impl.Inst{Cmd: c}).Cmd
}

func freshMsg(m impl.EMsg) impl.EMsg {
	m.Cmd, m.Deps = freshCmd(m.Cmd), slices.Clone(m.Deps)
	return m
}

func freshLead(l impl.Lead) impl.Lead {
	l.Deps, l.From = slices.Clone(l.Deps), slices.Clone(l.From)
	return l
}

func freshNode(n impl.ENode) impl.ENode {
	out := impl.ENode{Me: n.Me, Next: n.Next, Insts: freshInsts(n.Insts)}
	for _, l := range n.Leads {
		out.Leads = append(out.Leads, freshLead(l))
	}
	return out
}

// plainNode plays a call once more, sentence by sentence of the chapter, on a
// node of its own. How names the sentence with which the call ends.
type plainNode struct {
	impl.ENode
	sent []impl.EMsg
	how  string
}

type plainEnd struct {
	node impl.ENode
	sent []impl.EMsg
	ok   bool
	how  string
}

func endOf(n impl.ENode, play func(*plainNode) bool) plainEnd {
	if !wantNodeOk(n) {
		return plainEnd{how: "invalid node"}
	}
	p := &plainNode{ENode: freshNode(n)}
	if !play(p) {
		return plainEnd{node: freshNode(n), how: p.how}
	}
	return plainEnd{p.ENode, p.sent, true, p.how}
}

func (p *plainNode) no(how string) bool {
	p.how = how
	return false
}

func (p *plainNode) yes(how string) bool {
	p.how = how
	return true
}

func (p *plainNode) instAt(id impl.Id) impl.Inst {
	return freshInst(wantInstAt(p.Insts, id))
}

func (p *plainNode) put(x impl.Inst) {
	var l []impl.Inst
	for _, id := range allIds() {
		if id == x.Id {
			l = append(l, freshInst(x))
		} else if y := wantInstAt(p.Insts, id); slices.ContainsFunc(p.Insts, func(z impl.Inst) bool { return z.Id == id }) {
			l = append(l, y)
		}
	}
	p.Insts = l
}

func (p *plainNode) placeOf(id impl.Id) int {
	return slices.IndexFunc(p.Leads, func(l impl.Lead) bool { return l.Id == id })
}

// leadAt returns the zero Lead, which is in no Phase, if there is none.
func (p *plainNode) leadAt(id impl.Id) impl.Lead {
	if at := p.placeOf(id); at >= 0 {
		return freshLead(p.Leads[at])
	}
	return impl.Lead{}
}

func (p *plainNode) setLead(l impl.Lead) {
	if at := p.placeOf(l.Id); at >= 0 {
		p.Leads[at] = freshLead(l)
		return
	}
	p.Leads = append(p.Leads, freshLead(l))
}

func (p *plainNode) drop(id impl.Id) {
	if at := p.placeOf(id); at >= 0 {
		p.Leads = slices.Delete(p.Leads, at, at+1)
	}
}

func (p *plainNode) tell(to int, m impl.EMsg) {
	m.From, m.To = p.Me, to
	if m.Kind != 7 {
		m.VBal = -1
	}
	p.sent = append(p.sent, freshMsg(m))
}

func (p *plainNode) tellOthers(m impl.EMsg) {
	for _, to := range [][]int{{1, 2}, {0, 2}, {0, 1}}[p.Me] {
		p.tell(to, m)
	}
}

func (p *plainNode) offer(c impl.Cmd) bool {
	switch {
	case !wantCmdOk(c):
		return p.no("offer: invalid")
	case c.Kind == 0:
		return p.no("offer: CmNoop")
	case p.Next > 6:
		return p.no("offer: no Slot")
	case len(p.Leads) == 8:
		return p.no("offer: no Lead")
	}
	id := idOf(p.Me, p.Next)
	seq, deps := wantAttrs(p.Insts, id, c)
	if seq > 60 {
		return p.no("offer: Seq")
	}
	p.Next++
	p.put(impl.Inst{Id: id, Bal: p.Me, VBal: p.Me, Status: 1, Cmd: c, Seq: seq, Deps: deps, Same: true})
	p.setLead(impl.Lead{Id: id, Bal: p.Me, Phase: 1, Seq: seq, Deps: deps, Same: true})
	p.tellOthers(impl.EMsg{Kind: 1, Id: id, Bal: p.Me, Cmd: c, Seq: seq, Deps: deps})
	return p.yes("offer")
}

func (p *plainNode) accept(l impl.Lead, how string) bool {
	x := p.instAt(l.Id)
	if x.Bal != l.Bal {
		p.drop(l.Id)
		return p.yes(how + ": not accepted")
	}
	x.Status, x.VBal, x.Seq, x.Deps, x.Same = 2, l.Bal, l.Seq, l.Deps, false
	p.put(x)
	l.Phase, l.From = 2, nil
	p.setLead(l)
	p.tellOthers(impl.EMsg{Kind: 3, Id: l.Id, Bal: l.Bal, Cmd: x.Cmd, Seq: l.Seq, Deps: l.Deps})
	return p.yes(how + ": accepted")
}

func (p *plainNode) commit(l impl.Lead, how string) bool {
	x := p.instAt(l.Id)
	p.drop(l.Id)
	if x.Bal != l.Bal {
		return p.yes(how + ": not committed")
	}
	x.Status, x.Seq, x.Deps, x.Same = 3, l.Seq, l.Deps, false
	p.put(x)
	p.tellOthers(impl.EMsg{Kind: 5, Id: l.Id, Cmd: x.Cmd, Seq: l.Seq, Deps: l.Deps})
	return p.yes(how + ": committed")
}

func (p *plainNode) slow(id impl.Id) bool {
	l := p.leadAt(id)
	if l.Phase != 1 {
		return p.no("slow: Phase")
	}
	if len(l.From) == 0 {
		return p.no("slow: From")
	}
	return p.accept(l, "slow")
}

func (p *plainNode) recover(id impl.Id) bool {
	x := p.instAt(id)
	switch {
	case idNumber(id) < 0:
		return p.no("recover: Id")
	case x.Status == 3:
		return p.no("recover: EsCom")
	case id.Rep == p.Me && id.Slot >= p.Next:
		return p.no("recover: Next")
	}
	bal := 3 + p.Me
	for bal <= x.Bal {
		bal += 3
	}
	if bal > 600 {
		return p.no("recover: Bal")
	}
	if p.placeOf(id) < 0 && len(p.Leads) == 8 {
		return p.no("recover: Leads")
	}
	x.Bal = bal
	p.put(x)
	p.setLead(impl.Lead{Id: id, Bal: bal, Phase: 3})
	p.tellOthers(impl.EMsg{Kind: 6, Id: id, Bal: bal})
	return p.yes("recover")
}

func (p *plainNode) fall() bool {
	p.Leads = nil
	return p.yes("fall")
}

func (p *plainNode) get(m impl.EMsg) bool {
	switch {
	case !wantMsgOk(m):
		return p.no("get: invalid")
	case m.To != p.Me:
		return p.no("get: To")
	case m.Id.Rep == p.Me && m.Id.Slot >= p.Next:
		return p.no("get: Next")
	}
	return []func(*plainNode, impl.EMsg) bool{
		(*plainNode).getPre, (*plainNode).getPreOk, (*plainNode).getAcc, (*plainNode).getAccOk,
		(*plainNode).getCom, (*plainNode).getPrep, (*plainNode).getPrepOk,
	}[m.Kind-1](p, m)
}

func (p *plainNode) getPre(m impl.EMsg) bool {
	x := p.instAt(m.Id)
	if x.Bal > m.Bal {
		return p.no("EkPre: Bal")
	}
	if x.Status > 1 {
		return p.no("EkPre: Status")
	}
	how := "EkPre: unchanged"
	if x.Status == 0 || x.VBal != m.Bal {
		seq, deps := wantAttrs(p.Insts, m.Id, m.Cmd)
		seq, deps = max(seq, m.Seq), wantJoin(m.Deps, deps)
		if seq > 60 {
			return p.no("EkPre: Seq")
		}
		same := seq == m.Seq && slices.Equal(deps, m.Deps)
		x = impl.Inst{Id: m.Id, Bal: m.Bal, VBal: m.Bal, Status: 1, Cmd: m.Cmd, Seq: seq, Deps: deps, Same: same}
		p.put(x)
		how = map[bool]string{true: "EkPre: same", false: "EkPre: other"}[same]
	}
	p.tell(m.From, impl.EMsg{Kind: 2, Id: m.Id, Bal: m.Bal, Seq: x.Seq, Deps: x.Deps, Same: x.Same})
	return p.yes(how)
}

func (p *plainNode) getPreOk(m impl.EMsg) bool {
	l := p.leadAt(m.Id)
	if l.Phase != 1 || l.Bal != m.Bal {
		return p.no("EkPreOk: no Lead")
	}
	if slices.Contains(l.From, m.From) {
		return p.no("EkPreOk: twice")
	}
	l.From = append(l.From, m.From)
	slices.Sort(l.From)
	l.Seq, l.Deps, l.Same = max(l.Seq, m.Seq), wantJoin(l.Deps, m.Deps), l.Same && m.Same
	switch {
	case l.Bal != m.Id.Rep:
		return p.accept(l, "EkPreOk: later ballot")
	case !l.Same:
		return p.accept(l, "EkPreOk: not Same")
	case len(l.From) >= 2:
		return p.commit(l, "EkPreOk: fast")
	}
	p.setLead(l)
	return p.yes("EkPreOk: first")
}

func (p *plainNode) getAcc(m impl.EMsg) bool {
	x := p.instAt(m.Id)
	if x.Bal > m.Bal {
		return p.no("EkAcc: Bal")
	}
	if x.Status == 3 {
		return p.no("EkAcc: Status")
	}
	p.put(impl.Inst{Id: m.Id, Bal: m.Bal, VBal: m.Bal, Status: 2, Cmd: m.Cmd, Seq: m.Seq, Deps: m.Deps})
	p.tell(m.From, impl.EMsg{Kind: 4, Id: m.Id, Bal: m.Bal})
	return p.yes("EkAcc")
}

func (p *plainNode) getAccOk(m impl.EMsg) bool {
	l := p.leadAt(m.Id)
	if l.Phase != 2 || l.Bal != m.Bal {
		return p.no("EkAccOk: no Lead")
	}
	return p.commit(l, "EkAccOk")
}

func (p *plainNode) getCom(m impl.EMsg) bool {
	x := p.instAt(m.Id)
	if x.Status == 3 {
		return p.no("EkCom: Status")
	}
	x.Status, x.Cmd, x.Seq, x.Deps, x.Same = 3, m.Cmd, m.Seq, m.Deps, false
	p.put(x)
	if p.placeOf(m.Id) < 0 {
		return p.yes("EkCom: no Lead")
	}
	p.drop(m.Id)
	return p.yes("EkCom: Lead")
}

func (p *plainNode) getPrep(m impl.EMsg) bool {
	x := p.instAt(m.Id)
	if x.Bal >= m.Bal {
		return p.no("EkPrep: Bal")
	}
	x.Bal = m.Bal
	p.put(x)
	p.tell(m.From, impl.EMsg{Kind: 7, Id: m.Id, Bal: m.Bal, Status: x.Status, VBal: x.VBal, Cmd: x.Cmd, Seq: x.Seq, Deps: x.Deps, Same: x.Same})
	return p.yes("EkPrep")
}

// plainRule finds the first applicable rule of EkPrepOk, and whose values it
// uses; rule 5 uses those of neither.
func plainRule(own impl.Inst, m impl.EMsg) (rule int, uses impl.Inst, whose string) {
	told := impl.Inst{Id: m.Id, VBal: m.VBal, Status: m.Status, Cmd: m.Cmd, Seq: m.Seq, Deps: m.Deps, Same: m.Same}
	first := m.Id.Rep
	switch {
	case own.Status == 3:
		return 1, own, "own"
	case told.Status == 3:
		return 1, told, "told"
	case own.Status == 2 && told.Status == 2 && own.VBal >= told.VBal:
		return 2, own, "own of two"
	case own.Status == 2 && told.Status == 2:
		return 2, told, "told of two"
	case own.Status == 2:
		return 2, own, "own"
	case told.Status == 2:
		return 2, told, "told"
	case own.Status == 1 && told.Status == 1 && own.VBal == first && told.VBal == first && own.Same && told.Same && own.Seq == told.Seq && slices.Equal(own.Deps, told.Deps):
		return 3, own, "own"
	case own.Status == 1:
		return 4, own, "own"
	case told.Status == 1:
		return 4, told, "told"
	}
	return 5, impl.Inst{}, "nobody"
}

func (p *plainNode) getPrepOk(m impl.EMsg) bool {
	x, l := p.instAt(m.Id), p.leadAt(m.Id)
	if l.Phase != 3 || l.Bal != m.Bal {
		return p.no("EkPrepOk: no Lead")
	}
	if x.Bal != m.Bal {
		return p.no("EkPrepOk: Bal")
	}
	rule, uses, whose := plainRule(x, m)
	how := "EkPrepOk: " + string(rune('0'+rule)) + " " + whose
	x = impl.Inst{Id: m.Id, Bal: m.Bal, VBal: m.Bal, Status: 1, Cmd: uses.Cmd, Seq: uses.Seq, Deps: uses.Deps}
	if rule == 4 {
		x.Seq, x.Deps = wantAttrs(p.Insts, m.Id, uses.Cmd)
		x.Same = true
	}
	if x.Seq > 60 {
		return p.no("EkPrepOk: Seq")
	}
	p.put(x)
	l.Seq, l.Deps, l.From = x.Seq, x.Deps, nil
	switch rule {
	case 1:
		return p.commit(l, how)
	case 4:
		l.Phase, l.Same = 1, true
		p.setLead(l)
		p.tellOthers(impl.EMsg{Kind: 1, Id: m.Id, Bal: m.Bal, Cmd: x.Cmd, Seq: x.Seq, Deps: x.Deps})
		return p.yes(how)
	}
	return p.accept(l, how)
}

// nodeCall is a call of a function of the chapter, and its second reading.
type nodeCall struct {
	name string
	with any
	made func(impl.ENode) (impl.ENode, []impl.EMsg, bool)
	play func(*plainNode) bool
}

func offerCall(c impl.Cmd) nodeCall {
	return nodeCall{"ENodeOffer", c, func(n impl.ENode) (impl.ENode, []impl.EMsg, bool) { return impl.ENodeOffer(n, c) }, func(p *plainNode) bool { return p.offer(c) }}
}

func slowCall(id impl.Id) nodeCall {
	return nodeCall{"ENodeSlow", id, func(n impl.ENode) (impl.ENode, []impl.EMsg, bool) { return impl.ENodeSlow(n, id) }, func(p *plainNode) bool { return p.slow(id) }}
}

func recoverCall(id impl.Id) nodeCall {
	return nodeCall{"ENodeRecover", id, func(n impl.ENode) (impl.ENode, []impl.EMsg, bool) { return impl.ENodeRecover(n, id) }, func(p *plainNode) bool { return p.recover(id) }}
}

func fallCall() nodeCall {
	return nodeCall{"ENodeFall", nil, func(n impl.ENode) (impl.ENode, []impl.EMsg, bool) {
		after, ok := impl.ENodeFall(n)
		return after, nil, ok
	}, (*plainNode).fall}
}

func getCall(m impl.EMsg) nodeCall {
	return nodeCall{"ENodeGet", m, func(n impl.ENode) (impl.ENode, []impl.EMsg, bool) { return impl.ENodeGet(n, m) }, func(p *plainNode) bool { return p.get(m) }}
}

// try makes the call, holds it against the second reading, and tells that it
// breaks no promise and leaves its arguments alone.
func try(t *testing.T, n impl.ENode, c nodeCall) plainEnd {
	t.Helper()
	before := freshNode(n)
	want := endOf(n, c.play)
	node, sent, ok := c.made(n)
	if ok != want.ok || !equalNodes(node, want.node) || !equalMsgLists(sent, want.sent) {
		t.Fatalf("%s (%s) with %+v of\n%+v:\ngot  %v %+v\nsent %+v\nwant %v %+v\nsent %+v", c.name, want.how, c.with, before, ok, node, sent, want.ok, want.node, want.sent)
	}
	if !equalNodes(n, before) {
		t.Fatalf("%s with %+v: the node has become\n%+v, it was\n%+v", c.name, c.with, n, before)
	}
	if wantNodeOk(before) {
		keepsPromises(t, c, before, node)
	}
	for _, m := range sent {
		if !impl.EMsgOk(m) || m.From != n.Me {
			t.Fatalf("%s with %+v sends %+v", c.name, c.with, m)
		}
	}
	return plainEnd{node, sent, ok, want.how}
}

// keepsPromises leaves out an instance that is EsCom and has a Lead: no node has
// one, unless it was written down by hand.
func keepsPromises(t *testing.T, c nodeCall, before impl.ENode, after impl.ENode) {
	t.Helper()
	if !impl.ENodeOk(after) || !wantNodeOk(after) {
		t.Fatalf("%s with %+v leaves an invalid node: %+v", c.name, c.with, after)
	}
	if after.Me != before.Me || after.Next < before.Next || len(after.Insts) < len(before.Insts) {
		t.Fatalf("%s with %+v: %+v has become %+v", c.name, c.with, before, after)
	}
	for _, x := range before.Insts {
		y := wantInstAt(after.Insts, x.Id)
		if y.Bal < x.Bal || y.VBal < x.VBal {
			t.Fatalf("%s with %+v: a ballot of %+v decreases: %+v", c.name, c.with, x, y)
		}
		led := slices.ContainsFunc(before.Leads, func(l impl.Lead) bool { return l.Id == x.Id })
		if x.Status == impl.EsCom && !led && !committedAlike(x, y) {
			t.Fatalf("%s with %+v: %+v has become %+v", c.name, c.with, x, y)
		}
	}
}

// committedAlike leaves out Bal: a node notes that it has seen a later one.
func committedAlike(x impl.Inst, y impl.Inst) bool {
	x.Bal = y.Bal
	return equalInsts(x, y)
}

// does is try of a call that is possible.
func does(t *testing.T, what string, n impl.ENode, c nodeCall) (impl.ENode, []impl.EMsg) {
	t.Helper()
	end := try(t, n, c)
	if !end.ok {
		t.Fatalf("%s: %s with %+v of %+v is rejected", what, c.name, c.with, n)
	}
	return end.node, end.sent
}

// rejects tells that the call returns the node unchanged.
func rejects(t *testing.T, what string, n impl.ENode, c nodeCall) {
	t.Helper()
	node, sent, ok := c.made(n)
	if ok || len(sent) != 0 || !equalNodes(node, n) {
		t.Fatalf("%s: %s with %+v of\n%+v:\n%v %+v\nsent %+v", what, c.name, c.with, n, ok, node, sent)
	}
	try(t, n, c)
}

// returnsZero tells that the call finds the node invalid.
func returnsZero(t *testing.T, what string, n impl.ENode, c nodeCall) {
	t.Helper()
	node, sent, ok := c.made(n)
	if ok || len(sent) != 0 || !equalNodes(node, impl.ENode{}) {
		t.Fatalf("%s: %s with %+v of\n%+v:\n%v %+v\nsent %+v", what, c.name, c.with, n, ok, node, sent)
	}
}

func sameMsgs(t *testing.T, what string, got []impl.EMsg, want ...impl.EMsg) {
	t.Helper()
	if !equalMsgLists(got, want) {
		t.Fatalf("%s: sent\n%+v, want\n%+v", what, got, want)
	}
}

func sameInst(t *testing.T, what string, n impl.ENode, want impl.Inst) {
	t.Helper()
	if got := wantInstAt(n.Insts, want.Id); !equalInsts(got, want) {
		t.Fatalf("%s: instance\n%+v, want\n%+v", what, got, want)
	}
}

func sameLeads(t *testing.T, what string, n impl.ENode, want ...impl.Lead) {
	t.Helper()
	if !slices.EqualFunc(n.Leads, want, equalLeads) {
		t.Fatalf("%s: Leads\n%+v, want\n%+v", what, n.Leads, want)
	}
}
