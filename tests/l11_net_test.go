package tests

import (
	"math"
	"reflect"
	"slices"
	"strings"
	"testing"

	"loop.example/g00954/impl"
)

func offerAct(node int, c impl.Cmd) impl.EAct {
	return impl.EAct{Kind: impl.EaOffer, A: node, Cmd: c}
}

func giveAct(at int) impl.EAct {
	return impl.EAct{Kind: impl.EaGive, B: at}
}

func slowAct(node int, id impl.Id) impl.EAct {
	return impl.EAct{Kind: impl.EaSlow, A: node, Id: id}
}

func recoverAct(node int, id impl.Id) impl.EAct {
	return impl.EAct{Kind: impl.EaRecover, A: node, Id: id}
}

func fallAct(node int) impl.EAct {
	return impl.EAct{Kind: impl.EaFall, A: node}
}

// msgKey is a valid message as a value that can be compared; no two have the
// same one.
type msgKey struct {
	numbers [14]int
	texts   [4]string
	same    bool
}

func keyOf(m impl.EMsg) msgKey {
	c, deps := m.Cmd, 0
	for _, id := range m.Deps {
		deps |= 1 << idNumber(id)
	}
	return msgKey{
		[14]int{m.Kind, m.From, m.To, m.Id.Rep, m.Id.Slot, m.Bal, m.Seq, m.Status, m.VBal, deps, c.Kind, c.Client, c.No, c.N},
		[4]string{c.Set, c.Name, c.Tag, strings.Join(c.Chunks, "")},
		m.Same,
	}
}

func wantNetOk(x impl.ENet) bool {
	if len(x.Nodes) != 3 || len(x.Pool) > 160 {
		return false
	}
	for i := range 3 {
		if x.Nodes[i].Me != i || !wantNodeOk(x.Nodes[i]) {
			return false
		}
	}
	sent := map[msgKey]int{}
	for _, m := range x.Pool {
		if !wantMsgOk(m) {
			return false
		}
		sent[keyOf(m)]++
	}
	return len(sent) == len(x.Pool)
}

func equalNets(a impl.ENet, b impl.ENet) bool {
	return slices.EqualFunc(a.Nodes, b.Nodes, equalNodes) && equalMsgLists(a.Pool, b.Pool)
}

func freshNet(x impl.ENet) impl.ENet {
	var out impl.ENet
	for _, n := range x.Nodes {
		out.Nodes = append(out.Nodes, freshNode(n))
	}
	for _, m := range x.Pool {
		out.Pool = append(out.Pool, freshMsg(m))
	}
	return out
}

// netEnd is how an act ends; sent is what its node sends, be it in Pool or not.
type netEnd struct {
	net  impl.ENet
	sent []impl.EMsg
	ok   bool
	how  string
}

// wantCall finds the node of an act, and the call that it makes of it.
func wantCall(x impl.ENet, a impl.EAct) (at int, call nodeCall, how string) {
	switch a.Kind {
	case 1:
		at, call = a.A, offerCall(a.Cmd)
	case 2:
		if a.B < 0 || a.B >= len(x.Pool) {
			return 0, nodeCall{}, "no message"
		}
		at, call = x.Pool[a.B].To, getCall(x.Pool[a.B])
	case 3:
		at, call = a.A, slowCall(a.Id)
	case 4:
		at, call = a.A, recoverCall(a.Id)
	case 5:
		at, call = a.A, fallCall()
	default:
		return 0, nodeCall{}, "no kind"
	}
	if at != 0 && at != 1 && at != 2 {
		return 0, nodeCall{}, "no node"
	}
	return at, call, ""
}

// wantDo is the second reading of ENetDo; nodes act by that of chapter 9.
func wantDo(x impl.ENet, a impl.EAct) netEnd {
	if !wantNetOk(x) {
		return netEnd{how: "invalid network"}
	}
	at, call, how := wantCall(x, a)
	if how != "" {
		return netEnd{net: freshNet(x), how: how}
	}
	end := endOf(x.Nodes[at], call.play)
	if !end.ok {
		return netEnd{net: freshNet(x), how: end.how}
	}
	y := freshNet(x)
	y.Nodes[at] = end.node
	for _, m := range end.sent {
		if !slices.ContainsFunc(y.Pool, func(other impl.EMsg) bool { return equalMsgs(other, m) }) {
			y.Pool = append(y.Pool, freshMsg(m))
		}
	}
	if len(y.Pool) > 160 {
		return netEnd{net: freshNet(x), how: "Pool is full"}
	}
	return netEnd{y, end.sent, true, end.how}
}

// tryAct executes an act, holds it against the second reading, and tells that it
// breaks no promise and leaves its argument alone.
func tryAct(t *testing.T, x impl.ENet, a impl.EAct) netEnd {
	t.Helper()
	before := freshNet(x)
	want := wantDo(x, a)
	y, ok := impl.ENetDo(x, a)
	if ok != want.ok || !equalNets(y, want.net) {
		t.Fatalf("%+v (%s) of\n%+v:\ngot  %v %+v\nwant %v %+v", a, want.how, before, ok, y, want.ok, want.net)
	}
	if !equalNets(x, before) {
		t.Fatalf("%+v: the network has become\n%+v, it was\n%+v", a, x, before)
	}
	if want.how != "invalid network" {
		netKeepsPromises(t, a, before, y)
	}
	want.net = y
	return want
}

func netKeepsPromises(t *testing.T, a impl.EAct, before impl.ENet, after impl.ENet) {
	t.Helper()
	if !impl.ENetOk(after) || !wantNetOk(after) {
		t.Fatalf("%+v leaves an invalid network: %+v", a, after)
	}
	if len(after.Pool) < len(before.Pool) || !equalMsgLists(after.Pool[:len(before.Pool)], before.Pool) {
		t.Fatalf("%+v: Pool was\n%+v, it has become\n%+v", a, before.Pool, after.Pool)
	}
	for i, n := range before.Nodes {
		keepsPromises(t, nodeCall{name: "an act", with: a}, n, after.Nodes[i])
	}
}

// mustDo is tryAct of an act that is possible.
func mustDo(t *testing.T, what string, x impl.ENet, a impl.EAct) impl.ENet {
	t.Helper()
	end := tryAct(t, x, a)
	if !end.ok {
		t.Fatalf("%s: %+v is rejected (%s) by\n%+v", what, a, end.how, x)
	}
	return end.net
}

// cannotDo tells that an act leaves the network unchanged.
func cannotDo(t *testing.T, what string, x impl.ENet, a impl.EAct) {
	t.Helper()
	y, ok := impl.ENetDo(x, a)
	if ok || !equalNets(y, x) {
		t.Fatalf("%s: %+v of\n%+v:\n%v %+v", what, a, x, ok, y)
	}
	tryAct(t, x, a)
}

// played executes acts that are all possible, one by one and as a play.
func played(t *testing.T, what string, acts ...impl.EAct) impl.ENet {
	t.Helper()
	x := impl.ENetNew()
	for _, a := range acts {
		x = mustDo(t, what, x, a)
	}
	if y, count := impl.ENetPlay(acts); count != len(acts) || !equalNets(x, y) {
		t.Fatalf("%s: ENetPlay executes %d of %d acts:\n%+v, want\n%+v", what, count, len(acts), y, x)
	}
	return x
}

// checkPlay holds ENetPlay against the acts one by one.
func checkPlay(t *testing.T, what string, acts []impl.EAct) (impl.ENet, int) {
	t.Helper()
	want, wantCount := impl.ENet{}, 0
	if len(acts) <= 300 {
		want = newNet()
		for _, a := range acts {
			end := wantDo(want, a)
			want = end.net
			if end.ok {
				wantCount++
			}
		}
	}
	got, count := impl.ENetPlay(acts)
	if count != wantCount || !equalNets(got, want) {
		t.Fatalf("%s: ENetPlay executes %d:\n%+v, want %d:\n%+v", what, count, got, wantCount, want)
	}
	return got, count
}

// newNet is written down without ENetNew.
func newNet() impl.ENet {
	return impl.ENet{Nodes: []impl.ENode{{Me: 0, Next: 1}, {Me: 1, Next: 1}, {Me: 2, Next: 1}}}
}

// everyAct has acts of each kind at each node, and some of no kind or node.
func everyAct(x impl.ENet) []impl.EAct {
	acts := []impl.EAct{{}, {Kind: 6}, {Kind: -1}, fallAct(-1), fallAct(3), giveAct(-1), giveAct(len(x.Pool))}
	for node := range 3 {
		acts = append(acts, offerAct(node, commitOf("a")), offerAct(node, impl.Cmd{}), slowAct(node, idOf(0, 1)), recoverAct(node, idOf(0, 1)), recoverAct(node, idOf(2, 6)), fallAct(node))
	}
	for at := range min(len(x.Pool), 6) {
		acts = append(acts, giveAct(at), giveAct(len(x.Pool)-1-at))
	}
	return acts
}

func fewActs() []impl.EAct {
	return []impl.EAct{offerAct(1, commitOf("a")), giveAct(0), recoverAct(2, idOf(0, 1)), fallAct(0), {}}
}

// checkNet tells of one network whether it is valid, and what the acts make of
// it: the zero ENet if it is not.
func checkNet(t *testing.T, what string, x impl.ENet, valid bool, acts []impl.EAct) {
	t.Helper()
	if wantNetOk(x) != valid {
		t.Fatalf("%s: the second reading takes %+v for %v", what, x, !valid)
	}
	if got := impl.ENetOk(x); got != valid {
		t.Fatalf("%s: ENetOk(%+v) = %v", what, x, got)
	}
	for _, a := range acts {
		end := tryAct(t, x, a)
		if !valid && (end.ok || !reflect.DeepEqual(end.net, impl.ENet{})) {
			t.Fatalf("%s: %+v makes %v %+v of an invalid network", what, a, end.ok, end.net)
		}
	}
}

func netOf(nodes []impl.ENode, pool ...impl.EMsg) impl.ENet {
	return impl.ENet{Nodes: nodes, Pool: pool}
}

// newNodes are the nodes of a new network.
func newNodes() []impl.ENode {
	return newNet().Nodes
}

// manyMsgs are valid and different; a new node takes none of them.
func manyMsgs(count int) []impl.EMsg {
	var out []impl.EMsg
	for i := range count {
		out = append(out, impl.EMsg{Kind: impl.EkAccOk, From: 1, To: 0, Id: idOf(2, 6), Bal: i % 601, Seq: i / 601, VBal: -1})
	}
	return out
}

// busyActs lead to instances of each Status and to Leads of each Phase.
func busyActs() []impl.EAct {
	return []impl.EAct{
		offerAct(0, commitOf("a")), // 0 and 1: EkPre of (0, 1)
		giveAct(0),                 // 2: EkPreOk
		offerAct(1, readOf("a")),   // 3 and 4: EkPre of (1, 1)
		giveAct(3),                 // 5: EkPreOk
		giveAct(4),                 // 6: EkPreOk
		giveAct(5),                 // 7 and 8: EkAcc, or the first reply
		giveAct(6),                 // the other reply
		offerAct(2, listOf()),
		recoverAct(2, idOf(0, 1)),
		slowAct(0, idOf(0, 1)),
		offerAct(0, readOf("b")),
		offerAct(1, commitOf("c")),
		fallAct(1),
	}
}

func busyNet() impl.ENet {
	x := newNet()
	for _, a := range busyActs() {
		if end := wantDo(x, a); end.ok {
			x = end.net
		}
	}
	return x
}

func TestNetConstants(t *testing.T) {
	got := []int{impl.MaxPool, impl.MaxEActs, impl.EaOffer, impl.EaGive, impl.EaSlow, impl.EaRecover, impl.EaFall}
	if !slices.Equal(got, []int{160, 300, 1, 2, 3, 4, 5}) {
		t.Error("constants", got)
	}
}

func TestENetNew(t *testing.T) {
	x := impl.ENetNew()
	if !equalNets(x, newNet()) || len(x.Nodes) != 3 || len(x.Pool) != 0 {
		t.Fatalf("ENetNew() = %+v", x)
	}
	for me, n := range x.Nodes {
		if want, ok := impl.ENodeNew(me); !ok || !equalNodes(n, want) {
			t.Errorf("node %d: %+v, want %+v", me, n, want)
		}
	}
	checkNet(t, "new", x, true, everyAct(x))
	x.Nodes[1] = impl.ENode{}
	x.Pool = append(x.Pool, leastMsg())
	if again := impl.ENetNew(); !equalNets(again, newNet()) {
		t.Errorf("ENetNew() = %+v after a change of its result", again)
	}
}

func TestENetOkNumberOfNodes(t *testing.T) {
	n := newNodes()
	checkNet(t, "zero", impl.ENet{}, false, everyAct(impl.ENet{}))
	checkNet(t, "no nodes, but empty", netOf([]impl.ENode{}), false, fewActs())
	checkNet(t, "none but a message", netOf(nil, leastMsg()), false, fewActs())
	checkNet(t, "one", netOf(n[:1]), false, fewActs())
	checkNet(t, "two", netOf(n[:2]), false, fewActs())
	checkNet(t, "the last two", netOf(n[1:]), false, fewActs())
	checkNet(t, "three", netOf(n), true, fewActs())
	for me := -1; me <= 3; me++ {
		checkNet(t, "four", netOf(append(newNodes(), impl.ENode{Me: me, Next: 1})), false, fewActs())
	}
	checkNet(t, "six", netOf(append(newNodes(), n...)), false, fewActs())
	many := netOf(slices.Repeat(n, 100000))
	if impl.ENetOk(many) {
		t.Error("many nodes are valid")
	}
	if y, ok := impl.ENetDo(many, fallAct(0)); ok || len(y.Nodes) != 0 {
		t.Error("many nodes act")
	}
}

func TestENetOkOrderOfNodes(t *testing.T) {
	numbers := []int{-1, 0, 1, 2, 3, math.MinInt, math.MaxInt, 1 << 32}
	for _, a := range numbers {
		for _, b := range numbers {
			for _, c := range numbers {
				x := netOf([]impl.ENode{{Me: a, Next: 1}, {Me: b, Next: 1}, {Me: c, Next: 1}}, leastMsg())
				checkNet(t, "Me", x, a == 0 && b == 1 && c == 2, fewActs())
			}
		}
	}
	x := busyNet()
	checkNet(t, "busy", x, true, fewActs())
	for _, order := range [][3]int{{0, 2, 1}, {1, 0, 2}, {1, 2, 0}, {2, 0, 1}, {2, 1, 0}, {0, 1, 1}, {0, 0, 2}, {2, 1, 2}, {1, 1, 1}} {
		var nodes []impl.ENode
		for _, i := range order {
			nodes = append(nodes, x.Nodes[i])
		}
		checkNet(t, "another order", netOf(nodes, x.Pool...), false, fewActs())
	}
}

func TestENetOkOfAnInvalidNode(t *testing.T) {
	spoilt := []func(*impl.ENode){
		func(n *impl.ENode) { n.Next = 0 },
		func(n *impl.ENode) { n.Next = 8 },
		func(n *impl.ENode) { n.Next = 1 },
		func(n *impl.ENode) { n.Me = 3 },
		func(n *impl.ENode) { n.Insts[0].Seq = 61 },
		func(n *impl.ENode) { n.Insts[0].Cmd.No = 1001 },
		func(n *impl.ENode) { n.Insts[0], n.Insts[1] = n.Insts[1], n.Insts[0] },
		func(n *impl.ENode) { n.Insts = append(n.Insts, n.Insts[len(n.Insts)-1]) },
		func(n *impl.ENode) { n.Leads = manyLeads(9, impl.Id{}) },
		func(n *impl.ENode) { n.Leads = append(n.Leads, leadOf(idOf(1, 6), 601, 1)) },
		func(n *impl.ENode) { n.Leads = append(n.Leads, leadOf(idOf(1, 6), 4, 0)) },
	}
	for at := range 3 {
		for i, spoil := range spoilt {
			x := freshNet(busyNet())
			checkNet(t, "before", x, true, nil)
			spoil(&x.Nodes[at])
			checkNet(t, "node "+impl.Dec(at)+" spoilt by "+impl.Dec(i), x, false, everyAct(x))
		}
		x := freshNet(busyNet())
		x.Nodes[at].Leads = manyLeads(8, impl.Id{})
		checkNet(t, "eight Leads", x, true, fewActs())
		x.Nodes[at] = nodeOf(at, x.Nodes[at].Insts)
		checkNet(t, "greatest Next", x, true, fewActs())
		x.Nodes[at] = impl.ENode{}
		checkNet(t, "zero node", x, false, everyAct(x))
	}
}

func TestENetOkNumberOfMessages(t *testing.T) {
	checkNet(t, "nil", impl.ENet{Nodes: newNodes(), Pool: nil}, true, fewActs())
	checkNet(t, "empty", impl.ENet{Nodes: newNodes(), Pool: []impl.EMsg{}}, true, fewActs())
	checkNet(t, "empty with room", impl.ENet{Nodes: newNodes(), Pool: make([]impl.EMsg, 0, 200)}, true, fewActs())
	for _, count := range []int{1, 2, 80, 158, 159, 160, 161, 162, 200, 320} {
		for _, nodes := range [][]impl.ENode{newNodes(), busyNet().Nodes} {
			x := netOf(nodes, manyMsgs(count)...)
			checkNet(t, "messages", x, count <= 160, fewActs())
		}
	}
	many := netOf(newNodes(), slices.Repeat([]impl.EMsg{leastMsg()}, 300000)...)
	if impl.ENetOk(many) {
		t.Error("many messages are valid")
	}
	if y, ok := impl.ENetDo(many, fallAct(0)); ok || len(y.Pool) != 0 || len(y.Nodes) != 0 {
		t.Error("a network with many messages acts")
	}
}

func TestENetOkOfAnInvalidMessage(t *testing.T) {
	for _, m := range []impl.EMsg{leastMsg(), greatMsg(), baseMsgs()[1]} {
		changedMsgs(m, func(what string, d impl.EMsg) {
			if len(d.Cmd.Chunks) < 100 && len(d.Cmd.Set)+len(d.Cmd.Name)+len(d.Cmd.Tag) < 100 {
				checkNet(t, what, netOf(newNodes(), d), wantMsgOk(d), fewActs()[1:2])
			}
		})
	}
	bad := leastMsg()
	bad.To = bad.From
	for _, count := range []int{1, 2, 7, 160} {
		for _, at := range []int{0, 1, count / 2, count - 1} {
			for _, m := range []impl.EMsg{bad, {}, {Kind: 8}} {
				x := netOf(newNodes(), manyMsgs(count)...)
				checkNet(t, "before", x, true, nil)
				x.Pool[min(at, count-1)] = m
				checkNet(t, "invalid message", x, false, append(fewActs(), giveAct(count-1)))
			}
		}
	}
}

// An equal message is found wherever the two are, and whatever their lists are
// made of.
func TestENetOkOfEqualMessages(t *testing.T) {
	for _, count := range []int{2, 3, 7, 160} {
		for i := range count {
			for _, j := range []int{0, 1, i - 1, i + 1, count / 2, count - 2, count - 1} {
				x := netOf(newNodes(), manyMsgs(count)...)
				if j < 0 || j >= count {
					continue
				}
				x.Pool[j] = freshMsg(x.Pool[i])
				if got := impl.ENetOk(x); got != (i == j) || wantNetOk(x) != got {
					t.Fatalf("%d messages, %d and %d are equal: %v", count, i, j, got)
				}
			}
		}
	}
	for _, m := range append(baseMsgs(), leastMsg(), greatMsg()) {
		next := netOf(newNodes(), append([]impl.EMsg{m, freshMsg(m)}, manyMsgs(5)...)...)
		checkNet(t, "next to each other", next, false, fewActs())
		far := netOf(newNodes(), append(append([]impl.EMsg{m}, manyMsgs(150)...), freshMsg(m))...)
		checkNet(t, "far apart", far, false, fewActs())
		once := netOf(newNodes(), append([]impl.EMsg{m}, manyMsgs(150)...)...)
		checkNet(t, "once", once, true, fewActs())
	}
	a, b := leastMsg(), leastMsg()
	a.Deps, b.Deps, a.Cmd.Chunks, b.Cmd.Chunks = nil, []impl.Id{}, []string{}, nil
	checkNet(t, "nil and empty", netOf(newNodes(), a, b), false, fewActs())
	a.Deps = withRoom(a.Deps, idOf(0, 6))
	checkNet(t, "with room", netOf(newNodes(), a, b), false, fewActs())
}

func TestENetOkOfMessagesThatDifferInOneField(t *testing.T) {
	for _, m := range append(baseMsgs(), leastMsg(), greatMsg()) {
		differ := 0
		changedMsgs(m, func(what string, d impl.EMsg) {
			if !wantMsgOk(d) {
				return
			}
			valid := !equalMsgs(d, m)
			for _, pool := range [][]impl.EMsg{{m, d}, {d, m}, append(append([]impl.EMsg{m}, manyMsgs(3)...), d)} {
				checkNet(t, what, netOf(newNodes(), pool...), valid, nil)
			}
			if valid {
				differ++
			}
		})
		if differ < 20 {
			t.Errorf("only %d messages differ from %+v", differ, m)
		}
	}
}

// A command at node 1 on the fast path, with all messages of Pool.
func TestNetOnTheFastPath(t *testing.T) {
	c, id := commitOf("a"), idOf(1, 1)
	pre := impl.EMsg{Kind: impl.EkPre, From: 1, Id: id, Bal: 1, Cmd: c, Seq: 1, VBal: -1}
	ok := impl.EMsg{Kind: impl.EkPreOk, To: 1, Id: id, Bal: 1, Seq: 1, VBal: -1, Same: true}
	com := impl.EMsg{Kind: impl.EkCom, From: 1, Id: id, Cmd: c, Seq: 1, VBal: -1}
	to := func(m impl.EMsg, node int) impl.EMsg { m.To = node; return m }
	from := func(m impl.EMsg, node int) impl.EMsg { m.From = node; return m }
	acts := []impl.EAct{offerAct(1, c), giveAct(1), giveAct(0), giveAct(3), giveAct(2), giveAct(5), giveAct(4)}
	x := played(t, "fast", acts...)
	sameMsgs(t, "Pool", x.Pool, to(pre, 0), to(pre, 2), from(ok, 2), from(ok, 0), to(com, 0), to(com, 2))
	for i, n := range x.Nodes {
		sameInst(t, "node "+impl.Dec(i), n, impl.Inst{Id: id, Bal: 1, VBal: 1, Status: impl.EsCom, Cmd: c, Seq: 1})
		sameLeads(t, "node "+impl.Dec(i), n)
	}
}

// The same on the slow path, and by a recovery.
func TestNetOnTheSlowPath(t *testing.T) {
	c, id := commitOf("a"), idOf(0, 1)
	x := played(t, "slow", offerAct(0, c), giveAct(1), giveAct(2), slowAct(0, id), giveAct(4), giveAct(5), giveAct(6))
	sameMsgs(t, "slow", x.Pool[3:],
		impl.EMsg{Kind: impl.EkAcc, From: 0, To: 1, Id: id, Cmd: c, Seq: 1, VBal: -1},
		impl.EMsg{Kind: impl.EkAcc, From: 0, To: 2, Id: id, Cmd: c, Seq: 1, VBal: -1},
		impl.EMsg{Kind: impl.EkAccOk, From: 2, To: 0, Id: id, VBal: -1},
		impl.EMsg{Kind: impl.EkCom, From: 0, To: 1, Id: id, Cmd: c, Seq: 1, VBal: -1},
		impl.EMsg{Kind: impl.EkCom, From: 0, To: 2, Id: id, Cmd: c, Seq: 1, VBal: -1})
	for i, status := range []int{impl.EsCom, impl.EsCom, impl.EsAcc} {
		if got := impl.InstAt(x.Nodes[i].Insts, id); got.Status != status || !equalCmds(got.Cmd, c) {
			t.Errorf("node %d: %+v, want Status %d", i, got, status)
		}
	}
	x = played(t, "recovered", offerAct(0, c), giveAct(0), fallAct(0), recoverAct(2, id), giveAct(4), giveAct(5), giveAct(7), giveAct(8))
	sameMsgs(t, "recovered", x.Pool[3:],
		impl.EMsg{Kind: impl.EkPrep, From: 2, To: 0, Id: id, Bal: 5, VBal: -1},
		impl.EMsg{Kind: impl.EkPrep, From: 2, To: 1, Id: id, Bal: 5, VBal: -1},
		impl.EMsg{Kind: impl.EkPrepOk, From: 1, To: 2, Id: id, Bal: 5, Cmd: c, Seq: 1, Status: impl.EsPre, VBal: 0, Same: true},
		impl.EMsg{Kind: impl.EkPre, From: 2, To: 0, Id: id, Bal: 5, Cmd: c, Seq: 1, VBal: -1},
		impl.EMsg{Kind: impl.EkPre, From: 2, To: 1, Id: id, Bal: 5, Cmd: c, Seq: 1, VBal: -1},
		impl.EMsg{Kind: impl.EkPreOk, From: 1, To: 2, Id: id, Bal: 5, Seq: 1, VBal: -1, Same: true},
		impl.EMsg{Kind: impl.EkAcc, From: 2, To: 0, Id: id, Bal: 5, Cmd: c, Seq: 1, VBal: -1},
		impl.EMsg{Kind: impl.EkAcc, From: 2, To: 1, Id: id, Bal: 5, Cmd: c, Seq: 1, VBal: -1})
}

// checkAct executes an act that is possible at a node, and tells that the node
// ends as by the function of chapter 9, and nothing else changes but Pool.
func checkAct(t *testing.T, what string, x impl.ENet, a impl.EAct, at int, call nodeCall) impl.ENet {
	t.Helper()
	node, sent, ok := call.made(x.Nodes[at])
	if !ok {
		t.Fatalf("%s: node %d does not take %+v", what, at, a)
	}
	y := mustDo(t, what, x, a)
	nodes := slices.Clone(x.Nodes)
	nodes[at] = node
	if !slices.EqualFunc(y.Nodes, nodes, equalNodes) {
		t.Fatalf("%s: %+v leads to\n%+v, want\n%+v", what, a, y.Nodes, nodes)
	}
	sameMsgs(t, what, y.Pool, append(slices.Clone(x.Pool), sent...)...)
	return y
}

func TestActsOfEachKindAtEachNode(t *testing.T) {
	for node := range 3 {
		for _, c := range validCmds()[1:] {
			if c.Kind != impl.CmNoop {
				checkAct(t, "offer", newNet(), offerAct(node, c), node, offerCall(c))
			}
		}
		id := idOf(node, 1)
		x := mustDo(t, "offer", newNet(), offerAct(node, readOf("a")))
		for i, at := range []int{0, 1} {
			y := checkAct(t, "give", x, giveAct(at), x.Pool[at].To, getCall(x.Pool[at]))
			y = checkAct(t, "reply", y, giveAct(2), node, getCall(y.Pool[2]))
			y = checkAct(t, "slow", y, slowAct(node, id), node, slowCall(id))
			for other := range 3 {
				checkAct(t, "recover", y, recoverAct(other, id), other, recoverCall(id))
				z := checkAct(t, "fall", y, fallAct(other), other, fallCall())
				if len(z.Pool) != len(y.Pool) || len(z.Nodes[other].Leads) != 0 {
					t.Errorf("fall of %d: %+v", other, z)
				}
			}
			checkAct(t, "give EkAcc", y, giveAct(3+i), y.Pool[3+i].To, getCall(y.Pool[3+i]))
		}
		checkAct(t, "second offer", x, offerAct(node, readOf("b")), node, offerCall(readOf("b")))
	}
}

// Each kind of message goes from each node to each other one, which has what the
// message is about; where it stands in Pool is all that the act names.
func TestGiveOfEachKindOfMessage(t *testing.T) {
	id := idOf(0, 1)
	ask := func(kind int, from int, to int) impl.EMsg {
		m := impl.EMsg{Kind: kind, From: from, To: to, Id: id, Bal: 6, Seq: 1, VBal: -1}
		if kind == impl.EkPre || kind == impl.EkAcc || kind == impl.EkCom {
			m.Cmd = readOf("a")
		}
		return m
	}
	for kind := impl.EkPre; kind <= impl.EkPrepOk; kind++ {
		for from := range 3 {
			for to := range 3 {
				if from == to {
					continue
				}
				x := netOf(newNodes(), append(manyMsgs(4), ask(kind, from, to), leastMsg())...)
				for me := range 3 {
					bal := 6
					if kind == impl.EkPrep {
						bal = 3
					}
					x.Nodes[me] = nodeOf(me, []impl.Inst{{Id: id, Bal: bal, VBal: 2, Status: impl.EsPre, Cmd: readOf("a"), Seq: 1}})
					phase := map[int]int{impl.EkPreOk: 1, impl.EkAccOk: 2, impl.EkPrepOk: 3}[kind]
					if phase > 0 {
						x.Nodes[me].Leads = []impl.Lead{{Id: id, Bal: 6, Phase: phase, Seq: 1}}
					}
				}
				a := impl.EAct{Kind: impl.EaGive, A: from, B: 4, Id: idOf(1, 1), Cmd: readOf("b")}
				y := checkAct(t, "give", x, a, to, getCall(x.Pool[4]))
				if equalNodes(y.Nodes[to], x.Nodes[to]) {
					t.Errorf("Kind %d from %d changes nothing at %d", kind, from, to)
				}
			}
		}
	}
}

func TestActsOfNoKind(t *testing.T) {
	for _, kind := range append(bigNumbers(), -1, 0, 6, 7, 8, 1<<32+1, 1<<32+5) {
		if 1 <= kind && kind <= 5 {
			continue
		}
		for _, x := range []impl.ENet{newNet(), busyNet()} {
			cannotDo(t, "kind", x, impl.EAct{Kind: kind, A: 1, B: 0, Id: idOf(0, 1), Cmd: readOf("a")})
		}
	}
}

func TestActsOfNoNode(t *testing.T) {
	id := idOf(0, 1)
	x := played(t, "offer", offerAct(0, readOf("a")), giveAct(0), giveAct(2))
	for _, node := range append(bigNumbers(), -2, -1, 0, 1, 2, 3, 4, 1<<32) {
		exists := node == 0 || node == 1 || node == 2
		for _, a := range []impl.EAct{offerAct(node, readOf("b")), slowAct(node, id), recoverAct(node, id), fallAct(node)} {
			if end := tryAct(t, x, a); end.ok != (exists && (a.Kind != impl.EaSlow || node == 0)) {
				t.Errorf("%+v: %v", a, end.ok)
			}
		}
		// The node to which a message is given is the one it names.
		give := giveAct(1)
		give.A = node
		if y := mustDo(t, "give", x, give); len(y.Nodes[2].Insts) != 1 || len(y.Pool) != 4 {
			t.Errorf("%+v leads to %+v", give, y)
		}
	}
}

func TestGiveOfNoMessage(t *testing.T) {
	for _, x := range []impl.ENet{newNet(), played(t, "offer", offerAct(2, readOf("a"))), busyNet()} {
		count := len(x.Pool)
		for _, at := range append(bigNumbers(), -2, -1, 0, 1, count-2, count-1, count, count+1, 2*count, 1<<32) {
			if at < 0 || at >= count {
				cannotDo(t, "no message", x, giveAct(at))
			} else {
				tryAct(t, x, giveAct(at))
			}
		}
	}
	x := played(t, "offer", offerAct(2, readOf("a")))
	mustDo(t, "first", x, giveAct(0))
	mustDo(t, "last", x, giveAct(1))
	for _, a := range []impl.EAct{offerAct(0, readOf("b")), recoverAct(1, idOf(2, 1)), fallAct(2)} {
		for _, at := range []int{-1, 2, 99, math.MinInt, math.MaxInt} {
			a.B = at
			mustDo(t, "B is of no concern", x, a)
		}
	}
}

func TestActsWithAnInvalidIdOrCmd(t *testing.T) {
	x := played(t, "offer", offerAct(0, readOf("a")), giveAct(0), giveAct(2))
	for _, id := range otherIds() {
		for node := range 3 {
			cannotDo(t, "slow", x, slowAct(node, id))
			cannotDo(t, "recover", x, recoverAct(node, id))
		}
		for _, a := range []impl.EAct{offerAct(1, readOf("b")), giveAct(1), fallAct(0)} {
			a.Id = id
			mustDo(t, "Id is of no concern", x, a)
		}
	}
	for _, c := range append(invalidCmds(), impl.Cmd{}) {
		for node := range 3 {
			cannotDo(t, "offer", x, offerAct(node, c))
		}
		for _, a := range []impl.EAct{giveAct(1), slowAct(0, idOf(0, 1)), recoverAct(1, idOf(0, 1)), fallAct(0)} {
			a.Cmd = c
			mustDo(t, "Cmd is of no concern", x, a)
		}
	}
}

// refusal is an act that a node refuses.
type refusal struct {
	what string
	net  impl.ENet
	act  impl.EAct
}

func refusals(t *testing.T) []refusal {
	id := idOf(0, 1)
	offered := played(t, "offered", offerAct(0, readOf("a")))
	done := played(t, "done", offerAct(0, readOf("a")), giveAct(0), giveAct(1), giveAct(2), giveAct(3), giveAct(4))
	sixth := newNet()
	for range 6 {
		sixth = mustDo(t, "sixth", sixth, offerAct(1, readOf("a")))
	}
	led := newNet()
	led.Nodes[2].Leads = manyLeads(8, idOf(2, 1))
	late := newNet()
	late.Nodes[1].Insts = []impl.Inst{unsetInst(id, 599)}
	deep := newNet()
	deep.Nodes[0].Insts = []impl.Inst{plainInst(idOf(2, 1), listOf(), 60)}
	return []refusal{
		{"no Slot is left", sixth, offerAct(1, readOf("a"))},
		{"no Lead is left for an offer", led, offerAct(2, readOf("a"))},
		{"no Lead is left for a recovery", led, recoverAct(2, idOf(1, 6))},
		{"Seq is too great", deep, offerAct(0, readOf("a"))},
		{"no reply has come", offered, slowAct(0, id)},
		{"another node slows down", offered, slowAct(1, id)},
		{"the Id is not given out", offered, recoverAct(0, idOf(0, 2))},
		{"it is committed", done, recoverAct(1, id)},
		{"it is committed where it was offered", done, recoverAct(0, id)},
		{"it is no longer led", done, slowAct(0, id)},
		{"no ballot is left", late, recoverAct(1, id)},
		{"a message arrives again", done, giveAct(4)},
		{"a reply arrives again", done, giveAct(2)},
	}
}

func TestActsThatANodeRefuses(t *testing.T) {
	for _, r := range refusals(t) {
		cannotDo(t, r.what, r.net, r.act)
	}
	for _, x := range []impl.ENet{newNet(), busyNet()} {
		for _, a := range everyAct(x) {
			tryAct(t, x, a)
		}
	}
}

func TestActsOfAnInvalidNetwork(t *testing.T) {
	good := busyNet()
	double := freshNet(good)
	double.Pool = append(double.Pool, freshMsg(double.Pool[0]))
	swapped := freshNet(good)
	swapped.Nodes[0], swapped.Nodes[2] = swapped.Nodes[2], swapped.Nodes[0]
	broken := freshNet(good)
	broken.Nodes[2].Next = 9
	wrong := freshNet(good)
	wrong.Pool[len(wrong.Pool)-1].Bal = 601
	full := netOf(good.Nodes, manyMsgs(161)...)
	for _, x := range []impl.ENet{{}, double, swapped, broken, wrong, full, netOf(good.Nodes[:2], good.Pool...)} {
		for _, a := range append(everyAct(x), fallAct(math.MaxInt), giveAct(math.MinInt)) {
			y, ok := impl.ENetDo(x, a)
			if ok || !reflect.DeepEqual(y, impl.ENet{}) {
				t.Fatalf("%+v of the invalid network\n%+v:\n%v %+v", a, x, ok, y)
			}
			tryAct(t, x, a)
		}
	}
}

// again is a message that is delivered a second time after some acts.
type again struct {
	what  string
	acts  []impl.EAct
	at    int
	reply int // the message that the node sends once more, or -1 if it refuses
}

// The offer of node 0 has the messages 0 and 1 (EkPre to the nodes 1 and 2).
func againOnTheFastPath() []again {
	id, c := idOf(0, 1), readOf("a")
	acts := func(l ...impl.EAct) []impl.EAct { return append([]impl.EAct{offerAct(0, c), giveAct(0)}, l...) }
	committed := func(l ...impl.EAct) []impl.EAct {
		return append(acts(giveAct(1), giveAct(2), giveAct(3), giveAct(4)), l...)
	}
	return []again{
		{"EkPre at once", acts(), 0, 2},
		{"EkPre after other messages", acts(giveAct(1), giveAct(2)), 0, 2},
		{"EkPre after other commands", acts(offerAct(1, listOf()), offerAct(2, readOf("a")), giveAct(3), giveAct(5)), 0, 2},
		{"EkPre after its proposer has fallen", acts(giveAct(2), fallAct(0)), 0, 2},
		{"EkPre after its node has fallen", acts(fallAct(1)), 0, 2},
		{"EkPre after its node has led another and fallen", acts(offerAct(1, readOf("a")), fallAct(1)), 0, 2},
		{"EkPre after a later ballot", acts(recoverAct(2, id), giveAct(4)), 0, -1},
		{"EkPre after a later ballot of its node", acts(recoverAct(1, id), fallAct(1)), 0, -1},
		{"EkPre after the commitment", committed(), 0, -1},
		{"EkPre after the commitment elsewhere", acts(giveAct(1), giveAct(2), giveAct(3)), 0, 2},
		{"EkPre after the commitment and a fall", committed(fallAct(1)), 0, -1},
		{"EkPreOk at once", acts(giveAct(2)), 2, -1},
		{"EkPreOk after other commands", acts(giveAct(2), offerAct(0, readOf("a")), offerAct(1, listOf()), giveAct(5)), 2, -1},
		{"EkPreOk after the commitment", acts(giveAct(1), giveAct(2), giveAct(3)), 2, -1},
		{"EkPreOk after the other one", acts(giveAct(1), giveAct(2), giveAct(3)), 3, -1},
		{"EkPreOk after its node has fallen", acts(giveAct(2), fallAct(0)), 2, -1},
		{"EkPreOk after its sender has fallen", acts(giveAct(2), fallAct(1)), 2, -1},
		{"EkPreOk after a recovery has begun", acts(giveAct(2), recoverAct(0, id)), 2, -1},
		{"EkCom at once", committed(), 4, -1},
		{"EkCom after other commands", committed(offerAct(1, listOf()), offerAct(0, readOf("a")), giveAct(8)), 4, -1},
		{"EkCom after its node has fallen", committed(fallAct(1)), 4, -1},
		{"EkCom after its sender has fallen", committed(fallAct(0)), 4, -1},
	}
}

// The messages 3 and 4 are EkAcc to the nodes 1 and 2, and 5 is EkAccOk.
func againOnTheSlowPath() []again {
	id, c := idOf(0, 1), readOf("a")
	acts := func(l ...impl.EAct) []impl.EAct {
		return append([]impl.EAct{offerAct(0, c), giveAct(0), giveAct(2), slowAct(0, id), giveAct(3)}, l...)
	}
	return []again{
		{"EkPre after EkAcc", acts(), 0, -1},
		{"EkPreOk in Phase 2", acts(), 2, -1},
		{"EkAcc at once", acts(), 3, 5},
		{"EkAcc after other messages", acts(giveAct(4), giveAct(5)), 3, 5},
		{"EkAcc after other commands", acts(offerAct(1, listOf()), offerAct(2, readOf("a")), giveAct(9)), 3, 5},
		{"EkAcc after its node has fallen", acts(fallAct(1)), 3, 5},
		{"EkAcc after its sender has fallen", acts(fallAct(0)), 3, 5},
		{"EkAcc after a later ballot", acts(recoverAct(2, id), giveAct(7)), 3, -1},
		{"EkAcc after the commitment", acts(giveAct(5), giveAct(6)), 3, -1},
		{"EkAcc after the commitment and a fall", acts(giveAct(5), giveAct(6), fallAct(1)), 3, -1},
		{"EkAccOk at once", acts(giveAct(5)), 5, -1},
		{"EkAccOk after other messages", acts(giveAct(4), giveAct(5), giveAct(7)), 6, -1},
		{"EkAccOk after other commands", acts(giveAct(5), offerAct(0, readOf("a")), offerAct(1, listOf()), giveAct(11)), 5, -1},
		{"EkAccOk after its node has fallen", acts(giveAct(5), fallAct(0)), 5, -1},
		{"EkAccOk, first after its node has fallen", acts(fallAct(0)), 5, -1},
		{"EkAccOk after a recovery has begun", acts(recoverAct(0, id)), 5, -1},
		{"EkCom at once", acts(giveAct(5), giveAct(6)), 6, -1},
	}
}

// The messages 3 and 4 are EkPrep of node 2 to the nodes 0 and 1, 5 is EkPrepOk
// of node 1, 6 and 7 are EkPre in the later ballot.
func againInARecovery() []again {
	id, c := idOf(0, 1), readOf("a")
	acts := func(l ...impl.EAct) []impl.EAct {
		return append([]impl.EAct{offerAct(0, c), giveAct(0), recoverAct(2, id), giveAct(4)}, l...)
	}
	committed := acts(giveAct(5), giveAct(7), giveAct(8), giveAct(10), giveAct(11))
	return []again{
		{"EkPrep at once", acts(), 4, -1},
		{"EkPrep after other messages", acts(giveAct(5), giveAct(7)), 4, -1},
		{"EkPrep after its node has fallen", acts(fallAct(1)), 4, -1},
		{"EkPrep after its sender has fallen", acts(fallAct(2)), 4, -1},
		{"EkPrep after the commitment", append(slices.Clone(committed), giveAct(13)), 4, -1},
		{"EkPrepOk at once", acts(giveAct(5)), 5, -1},
		{"EkPrepOk after other messages", acts(giveAct(5), giveAct(7), giveAct(8)), 5, -1},
		{"EkPrepOk after its node has fallen", acts(giveAct(5), fallAct(2)), 5, -1},
		{"EkPrepOk, first after its node has fallen", acts(fallAct(2)), 5, -1},
		{"EkPrepOk after another recovery", acts(giveAct(5), recoverAct(2, id)), 5, -1},
		{"EkPrepOk after the commitment", committed, 5, -1},
		{"EkPre of the later ballot", acts(giveAct(5), giveAct(7)), 7, 8},
		{"EkPre of the later ballot after a fall", acts(giveAct(5), giveAct(7), fallAct(1), fallAct(2)), 7, 8},
		{"EkPre of the first ballot, first now", acts(giveAct(5)), 0, -1},
		{"EkPreOk of the later ballot", acts(giveAct(5), giveAct(7), giveAct(8)), 8, -1},
		{"EkPreOk of the first ballot in a later one", acts(giveAct(5), giveAct(6), giveAct(2)), 2, -1},
		{"EkAcc of the later ballot", acts(giveAct(5), giveAct(7), giveAct(8), giveAct(10)), 10, 11},
		{"EkAccOk of the later ballot", committed, 11, -1},
	}
}

// A node that gets a message again either refuses it or says once more what is
// in Pool already; the network is the same afterwards.
func TestMessageThatIsDeliveredAgain(t *testing.T) {
	kinds := map[int]int{}
	for _, c := range slices.Concat(againOnTheFastPath(), againOnTheSlowPath(), againInARecovery()) {
		x := played(t, c.what, c.acts...)
		for range 3 {
			end := tryAct(t, x, giveAct(c.at))
			if end.ok != (c.reply >= 0) || !equalNets(end.net, x) {
				t.Fatalf("%s: %v (%s)\n%+v, it was\n%+v", c.what, end.ok, end.how, end.net, x)
			}
			if end.ok {
				sameMsgs(t, c.what, end.sent, x.Pool[c.reply])
			}
			x = end.net
		}
		if !strings.HasPrefix(c.what, []string{"EkPre ", "EkPreOk", "EkAcc ", "EkAccOk", "EkCom ", "EkPrep ", "EkPrepOk"}[x.Pool[c.at].Kind-1]) {
			t.Errorf("%s: the message is %+v", c.what, x.Pool[c.at])
		}
		kinds[x.Pool[c.at].Kind]++
		acts := append(slices.Clone(c.acts), giveAct(c.at), giveAct(c.at))
		count := len(c.acts)
		if c.reply >= 0 {
			count += 2
		}
		if y, n := checkPlay(t, c.what, acts); n != count || !equalNets(y, x) {
			t.Errorf("%s: ENetPlay executes %d, want %d", c.what, n, count)
		}
	}
	if len(kinds) != 7 {
		t.Errorf("kinds of messages: %v", kinds)
	}
}

// Some or all messages that an act sends are in Pool, though its node has not
// sent them; they stay where they are.
func TestMessagesThatPoolContains(t *testing.T) {
	c := commitOf("a")
	sent := mustDo(t, "offer", newNet(), offerAct(1, c)).Pool
	more := manyMsgs(3)
	cases := []struct {
		before []impl.EMsg
		added  []impl.EMsg
	}{
		{nil, sent},
		{more, sent},
		{sent[:1], sent[1:]},
		{sent[1:], sent[:1]},
		{sent, nil},
		{[]impl.EMsg{sent[1], sent[0]}, nil},
		{[]impl.EMsg{more[0], sent[1], more[1], sent[0], more[2]}, nil},
		{[]impl.EMsg{more[0], sent[1], more[1]}, sent[:1]},
	}
	for _, k := range cases {
		x := freshNet(netOf(newNodes(), k.before...))
		y := mustDo(t, "offer", x, offerAct(1, c))
		sameMsgs(t, "Pool", y.Pool, append(slices.Clone(k.before), k.added...)...)
		sameLeads(t, "offer", y.Nodes[1], impl.Lead{Id: idOf(1, 1), Bal: 1, Phase: 1, Seq: 1, Same: true})
	}
	// A message that differs in one field is another one.
	changedMsgs(sent[0], func(what string, d impl.EMsg) {
		if wantMsgOk(d) && !equalMsgs(d, sent[0]) && !equalMsgs(d, sent[1]) {
			y, ok := impl.ENetDo(netOf(newNodes(), d), offerAct(1, c))
			if !ok || !equalMsgLists(y.Pool, []impl.EMsg{d, sent[0], sent[1]}) {
				t.Fatalf("%s: %v %+v", what, ok, y.Pool)
			}
		}
	})
}

// filling is an act that is possible, with the number of messages that it adds
// to Pool.
type filling struct {
	act  impl.EAct
	adds int
}

func fillings(t *testing.T) (impl.ENet, []filling) {
	t.Helper()
	x := played(t, "filling",
		offerAct(0, readOf("a")),            // 0 and 1: EkPre of (0, 1)
		giveAct(0),                          // 2: EkPreOk of node 1
		offerAct(1, readOf("b")),            // 3 and 4: EkPre of (1, 1)
		giveAct(3),                          // 5: EkPreOk of node 0
		giveAct(4),                          // 6: EkPreOk of node 2
		giveAct(5),                          // the first reply
		recoverAct(2, idOf(0, 1)),           // 7 and 8: EkPrep to the nodes 0 and 1
		offerAct(2, readOf("c")),            // 9 and 10: EkPre of (2, 1)
		giveAct(9),                          // 11: EkPreOk of node 0
		giveAct(11), slowAct(2, idOf(2, 1)), // 12 and 13: EkAcc
		giveAct(12),                // 14: EkAccOk of node 0
		offerAct(1, commitOf("d")), // 15 and 16: EkPre of (1, 2)
		recoverAct(0, idOf(1, 2)),  // 17 and 18: EkPrep to the nodes 1 and 2
		giveAct(17),                // 19: EkPrepOk of node 1
	)
	acts := []filling{
		{offerAct(0, listOf()), 2}, {offerAct(1, readOf("a")), 2}, {offerAct(2, commitOf("e")), 2},
		{slowAct(1, idOf(1, 1)), 2}, {recoverAct(0, idOf(2, 6)), 2}, {recoverAct(1, idOf(0, 1)), 2}, {recoverAct(2, idOf(0, 1)), 2},
		{fallAct(0), 0}, {fallAct(1), 0}, {fallAct(2), 0},
	}
	for _, give := range [][2]int{{0, 0}, {2, 0}, {3, 0}, {4, 0}, {6, 2}, {7, 1}, {8, 1}, {10, 1}, {12, 0}, {13, 1}, {14, 2}, {16, 1}, {18, 1}, {19, 2}} {
		acts = append(acts, filling{giveAct(give[0]), give[1]})
	}
	return x, acts
}

// The network is filled up with messages that no node takes. Not only Pool is
// unchanged if an act would send too much, but also the node.
func TestActsThatFillPool(t *testing.T) {
	x, acts := fillings(t)
	for _, f := range acts {
		if y := mustDo(t, "room", x, f.act); len(y.Pool) != len(x.Pool)+f.adds {
			t.Fatalf("%+v adds %d messages, want %d", f.act, len(y.Pool)-len(x.Pool), f.adds)
		}
		for used := 157; used <= 160; used++ {
			y := freshNet(netOf(x.Nodes, append(slices.Clone(x.Pool), manyMsgs(used-len(x.Pool))...)...))
			if used+f.adds > 160 {
				cannotDo(t, "Pool is full", y, f.act)
				continue
			}
			if z := mustDo(t, "there is room", y, f.act); len(z.Pool) != used+f.adds {
				t.Errorf("%+v: %d messages become %d", f.act, used, len(z.Pool))
			}
		}
	}
}

// Messages that Pool contains need no room, be they one or both.
func TestFullPoolThatContainsMessages(t *testing.T) {
	sent := mustDo(t, "offer", newNet(), offerAct(2, readOf("a"))).Pool
	for contained := range 3 {
		for used := 157; used <= 160; used++ {
			for _, first := range []bool{true, false} {
				has := sent[:contained]
				if !first {
					has = sent[2-contained:]
				}
				x := netOf(newNodes(), append(slices.Clone(has), manyMsgs(used-contained)...)...)
				if used+2-contained > 160 {
					cannotDo(t, "full", x, offerAct(2, readOf("a")))
				} else if y := mustDo(t, "not full", x, offerAct(2, readOf("a"))); len(y.Pool) != used+2-contained || y.Nodes[2].Next != 2 {
					t.Errorf("%d used, %d contained: %+v", used, contained, y)
				}
			}
		}
	}
}

// manyRecoveries send two messages each.
func manyRecoveries(count int) []impl.EAct {
	return slices.Repeat([]impl.EAct{recoverAct(0, idOf(0, 1))}, count)
}

func TestPlayThatFillsPool(t *testing.T) {
	offer := offerAct(0, readOf("a"))
	even := append([]impl.EAct{offer}, manyRecoveries(79)...)
	x, count := checkPlay(t, "160 messages", even)
	if count != 80 || len(x.Pool) != 160 {
		t.Fatalf("%d acts, %d messages", count, len(x.Pool))
	}
	for _, a := range []impl.EAct{recoverAct(0, idOf(0, 1)), recoverAct(1, idOf(2, 2)), offerAct(1, readOf("b")), giveAct(1), giveAct(2), giveAct(159)} {
		cannotDo(t, "160", x, a)
	}
	more := append(slices.Clone(even), recoverAct(0, idOf(0, 1)), giveAct(0), fallAct(0), recoverAct(0, idOf(0, 1)), fallAct(2))
	y, count := checkPlay(t, "and more", more)
	if count != 82 || !equalMsgLists(y.Pool, x.Pool) || len(y.Nodes[0].Leads) != 0 || y.Nodes[0].Insts[0].Bal != x.Nodes[0].Insts[0].Bal {
		t.Fatalf("%d acts lead to %+v", count, y)
	}
	odd := append([]impl.EAct{offer, giveAct(0)}, manyRecoveries(80)...)
	x, count = checkPlay(t, "159 messages", odd)
	if count != 80 || len(x.Pool) != 159 {
		t.Fatalf("%d acts, %d messages", count, len(x.Pool))
	}
	if y, count = checkPlay(t, "the last message", append(odd, giveAct(1), giveAct(0), giveAct(1))); count != 83 || len(y.Pool) != 160 {
		t.Fatalf("%d acts, %d messages", count, len(y.Pool))
	}
}

func TestPlayOfNoAct(t *testing.T) {
	for _, acts := range [][]impl.EAct{nil, {}, make([]impl.EAct, 0, 400)} {
		if x, count := impl.ENetPlay(acts); count != 0 || !equalNets(x, newNet()) || len(x.Nodes) != 3 {
			t.Errorf("%d %+v", count, x)
		}
	}
}

func TestPlayOfManyActs(t *testing.T) {
	for _, count := range []int{1, 2, 150, 299, 300} {
		if x, done := checkPlay(t, "falls", slices.Repeat([]impl.EAct{fallAct(1)}, count)); done != count || !equalNets(x, newNet()) {
			t.Errorf("%d falls: %d %+v", count, done, x)
		}
		if x, done := checkPlay(t, "nothing", make([]impl.EAct, count)); done != 0 || !equalNets(x, newNet()) {
			t.Errorf("%d times nothing: %d %+v", count, done, x)
		}
	}
	for _, count := range []int{301, 302, 400, 600, 100000} {
		acts := slices.Repeat([]impl.EAct{fallAct(1)}, count)
		acts[0] = offerAct(0, readOf("a"))
		for _, l := range [][]impl.EAct{acts, make([]impl.EAct, count)} {
			if x, done := impl.ENetPlay(l); done != 0 || !reflect.DeepEqual(x, impl.ENet{}) {
				t.Errorf("%d acts: %d %+v", count, done, x)
			}
		}
	}
	last := append(make([]impl.EAct, 299), offerAct(0, readOf("a")))
	if x, done := checkPlay(t, "the last one", last); done != 1 || len(x.Pool) != 2 {
		t.Errorf("%d %+v", done, x)
	}
}

// Acts that are impossible leave no trace, wherever they are.
func TestPlayOfImpossibleActs(t *testing.T) {
	good := []impl.EAct{offerAct(0, readOf("a")), giveAct(1), giveAct(0), offerAct(1, listOf()), giveAct(2), giveAct(3), giveAct(4), fallAct(2)}
	want := played(t, "good", good...)
	bad := []impl.EAct{{}, {Kind: 6, A: 1}, {Kind: -1}, offerAct(3, readOf("a")), offerAct(0, impl.Cmd{}), giveAct(-1), giveAct(160), slowAct(2, idOf(0, 1)), recoverAct(0, idOf(0, 6)), recoverAct(-1, idOf(0, 1)), fallAct(3), {Kind: math.MaxInt, A: math.MinInt}}
	var mixed []impl.EAct
	for i, a := range good {
		mixed = append(append(mixed, bad[i%len(bad):]...), a)
	}
	mixed = append(mixed, bad...)
	if x, count := checkPlay(t, "mixed", mixed); count != len(good) || !equalNets(x, want) {
		t.Errorf("%d of %d acts: %+v, want %d, %+v", count, len(mixed), x, len(good), want)
	}
	if x, count := checkPlay(t, "bad", bad); count != 0 || !equalNets(x, newNet()) {
		t.Errorf("%d: %+v", count, x)
	}
	// An act that is impossible at first may be possible later.
	give := giveAct(0)
	if _, count := checkPlay(t, "later", []impl.EAct{give, offerAct(0, readOf("a")), give}); count != 2 {
		t.Errorf("%d acts", count)
	}
}

// longPlay is a play that goes on, with what has come about in it.
type longPlay struct {
	r      lcg
	net    impl.ENet
	acts   []impl.EAct
	count  int
	given  map[int]int
	offers int
	// Every lose-th message is lost, and the others may be late; at most so many
	// commands are offered; of 60 acts, so many are recoveries.
	lose, most, recoveries int
	pool                   []impl.EMsg
	committed              [3]map[impl.Id]impl.Inst
	seen                   map[string]int
}

func newPlay(seed int) *longPlay {
	p := &longPlay{r: lcg(seed), net: impl.ENetNew(), given: map[int]int{}, seen: map[string]int{}}
	p.lose, p.most, p.recoveries = []int{1000, 2, 3, 5, 1000}[seed%5], 2+seed%11, []int{1, 2, 12}[seed%3]
	for i := range p.committed {
		p.committed[i] = map[impl.Id]impl.Inst{}
	}
	return p
}

func (p *longPlay) anyId() impl.Id {
	if len(p.pool) == 0 || p.r.below(8) == 0 {
		return append(allIds(), otherIds()...)[p.r.below(26)]
	}
	return p.pool[p.r.below(len(p.pool))].Id
}

// anyAct is often a message, be it new, late or one that was given before.
func (p *longPlay) anyAct() impl.EAct {
	node := p.r.below(3)
	switch kind := p.r.below(60); {
	case kind < 8 && p.offers < p.most:
		return offerAct(node, validCmds()[p.r.below(16)])
	case kind < 9:
		return slowAct(node, p.anyId())
	case kind < 10:
		return fallAct(node)
	case kind < 11:
		return []impl.EAct{{}, {Kind: 6}, offerAct(3, readOf("a")), fallAct(-1), giveAct(-1), giveAct(len(p.pool)), slowAct(1, idOf(3, 3))}[p.r.below(7)]
	case kind < 11+p.recoveries:
		return recoverAct(node, p.anyId())
	}
	return giveAct(p.anyMessage())
}

// anyMessage is as often a message that was not given yet as any other one.
func (p *longPlay) anyMessage() int {
	for range 20 {
		at := p.r.below(len(p.pool) + 1)
		if (at+1)%p.lose != 0 && (p.given[at] == 0 || p.r.below(10) == 0) {
			return at
		}
	}
	return -1
}

func (p *longPlay) act(t *testing.T) {
	t.Helper()
	a := p.anyAct()
	end := tryAct(t, p.net, a)
	p.acts, p.net = append(p.acts, a), end.net
	p.seen[end.how]++
	if !end.ok {
		return
	}
	p.count++
	if a.Kind == impl.EaOffer {
		p.offers++
	}
	if a.Kind == impl.EaGive {
		p.given[a.B]++
		if p.given[a.B] > 1 && len(end.sent) > 0 {
			p.seen["answered again"]++
		}
	}
	p.keeps(t)
}

// keeps compares with what was seen when a message was sent or an instance was
// committed, and not only with the network before the last act.
func (p *longPlay) keeps(t *testing.T) {
	t.Helper()
	for i, m := range p.pool {
		if len(p.net.Pool) <= i || !equalMsgs(p.net.Pool[i], m) {
			t.Fatalf("message %d was %+v", i, m)
		}
	}
	for _, m := range p.net.Pool[len(p.pool):] {
		p.pool = append(p.pool, freshMsg(m))
	}
	for i, n := range p.net.Nodes {
		for id, x := range p.committed[i] {
			y := wantInstAt(n.Insts, id)
			if y.Status != impl.EsCom || !equalCmds(y.Cmd, x.Cmd) || y.Seq != x.Seq || !slices.Equal(y.Deps, x.Deps) {
				t.Fatalf("committed was %+v at node %d, now %+v", x, i, y)
			}
		}
		for _, x := range n.Insts {
			if _, found := p.committed[i][x.Id]; !found && x.Status == impl.EsCom {
				p.committed[i][x.Id] = freshInst(x)
				p.seen["committed"]++
			}
		}
	}
}

func TestLongPlays(t *testing.T) {
	seen, full := map[string]int{}, 0
	for seed := range 24 {
		p := newPlay(seed + 600)
		for range 300 {
			p.act(t)
		}
		x, count := impl.ENetPlay(p.acts)
		if count != p.count || !equalNets(x, p.net) {
			t.Fatalf("ENetPlay executes %d acts:\n%+v, want %d:\n%+v", count, x, p.count, p.net)
		}
		if len(x.Pool) == 160 {
			full++
		}
		for how, times := range p.seen {
			seen[how] += times
		}
	}
	if seen["committed"] < 150 || seen["answered again"] < 100 || full < 2 {
		t.Errorf("%d are committed, %d answers repeated, %d Pools full", seen["committed"], seen["answered again"], full)
	}
	for _, how := range []string{
		"offer", "slow: accepted", "recover", "fall", "no kind", "no node", "no message", "Pool is full",
		"EkPre: unchanged", "EkPre: same", "EkPre: other", "EkPreOk: twice", "EkPreOk: fast: committed", "EkPreOk: later ballot: accepted",
		"EkAcc", "EkAccOk: committed", "EkCom: no Lead", "EkCom: Lead", "EkCom: Status", "EkPrep", "EkPrepOk: 4 told",
	} {
		if seen[how] == 0 {
			t.Errorf("%q does not occur", how)
		}
	}
}

// A message that is given again at any time, to a node of any network, adds
// nothing that its node has said already.
func TestEveryMessageIsGivenAgain(t *testing.T) {
	for seed := range 6 {
		p := newPlay(seed + 90)
		for range 60 {
			p.act(t)
			for at := range p.given {
				end := tryAct(t, p.net, giveAct(at))
				if end.ok && (len(end.net.Pool) != len(p.net.Pool) || !equalMsgLists(end.net.Pool, p.net.Pool)) {
					t.Fatalf("message %d given again (%s) leads to\n%+v, Pool was\n%+v", at, end.how, end.net.Pool, p.net.Pool)
				}
			}
		}
	}
}

func (p *nodeParts) addNet(x impl.ENet) {
	for _, n := range x.Nodes {
		p.addNode(n)
	}
	p.addMsgs(x.Pool)
}

func (p *nodeParts) addActs(acts []impl.EAct) {
	for _, a := range acts {
		p.addCmd(a.Cmd)
	}
}

// netsApart tells that networks, and whatever else there is, share no memory.
func netsApart(t *testing.T, what string, parts nodeParts, nets ...impl.ENet) {
	t.Helper()
	var nodes [][]impl.ENode
	for _, x := range nets {
		parts.addNet(x)
		nodes = append(nodes, x.Nodes)
	}
	parts.apart(t, what)
	listsApart(t, what, nodes)
}

func freshActs(acts []impl.EAct) []impl.EAct {
	var out []impl.EAct
	for _, a := range acts {
		a.Cmd = freshCmd(a.Cmd)
		out = append(out, a)
	}
	return out
}

// allKindsActs are done and refused ones of each kind.
func allKindsActs(x impl.ENet) []impl.EAct {
	acts := append(everyAct(x), slowAct(1, idOf(1, 1)), recoverAct(2, idOf(1, 1)), offerAct(2, commitOf("b")))
	for at := range x.Pool {
		acts = append(acts, giveAct(at))
	}
	return acts
}

func TestNetFunctionsShareNoMemory(t *testing.T) {
	netsApart(t, "ENetNew", nodeParts{}, impl.ENetNew(), impl.ENetNew())
	for _, net := range []impl.ENet{newNet(), busyNet()} {
		done := 0
		for _, a := range freshActs(allKindsActs(net)) {
			x := freshNet(net)
			first, ok := impl.ENetDo(x, a)
			second, _ := impl.ENetDo(x, a)
			if ok {
				done++
			}
			var parts nodeParts
			parts.addActs([]impl.EAct{a})
			netsApart(t, "ENetDo", parts, x, first, second)
		}
		if done < 9 {
			t.Errorf("only %d acts are possible", done)
		}
	}
	acts := freshActs(append(busyActs(), everyAct(busyNet())...))
	first, _ := impl.ENetPlay(acts)
	second, _ := impl.ENetPlay(acts)
	var parts nodeParts
	parts.addActs(acts)
	netsApart(t, "ENetPlay", parts, first, second)
}

// A change of a result changes nothing else.
func TestNetResultsAreApart(t *testing.T) {
	for _, a := range allKindsActs(busyNet()) {
		x := busyNet()
		want := wantDo(x, a)
		first, _ := impl.ENetDo(x, a)
		second, _ := impl.ENetDo(x, a)
		for _, y := range []*impl.ENet{&first, &second} {
			y.Pool[0] = impl.EMsg{}
			y.Pool[1].Cmd.Chunks[0] = "changed-"
			y.Nodes[0].Insts[0].Cmd.Chunks[0] = "changed-"
			y.Nodes[1].Next = 99
			y.Nodes = append(y.Nodes[:2], impl.ENode{Me: 5})
			y.Pool = append(y.Pool[:3], impl.EMsg{Kind: 9})
		}
		if third, _ := impl.ENetDo(x, a); !equalNets(third, want.net) || !equalNets(x, busyNet()) {
			t.Fatalf("%+v: a change of a result leads to %+v, the argument is %+v", a, third, x)
		}
	}
}

// What is in several places of an argument is in none of a result.
func TestNetFunctionsSeparateWhatAnArgumentShares(t *testing.T) {
	n, c, deps := sharing()
	x := newNet()
	for me := range x.Nodes {
		x.Nodes[me] = nodeOf(me, n.Insts, n.Leads...)
	}
	for kind := 1; kind <= 7; kind++ {
		for to := range 3 {
			x.Pool = append(x.Pool, impl.EMsg{Kind: kind, From: (to + 1) % 3, To: to, Id: idOf(2, 2), Bal: 6, Cmd: c, Seq: 2, Deps: deps, VBal: 2, Same: true})
		}
	}
	checkNet(t, "sharing", x, true, nil)
	acts := append(allKindsActs(x), offerAct(0, c), slowAct(0, idOf(0, 1)))
	for _, a := range acts {
		first := tryAct(t, x, a).net
		second, _ := impl.ENetDo(x, a)
		var parts nodeParts
		parts.texts, parts.chunks = []string{c.Set, c.Chunks[0]}, [][]string{c.Chunks}
		parts.ids, parts.insts, parts.leads = append(parts.ids, deps), append(parts.insts, n.Insts), append(parts.leads, n.Leads)
		parts.from, parts.msgs = append(parts.from, n.Leads[0].From), append(parts.msgs, x.Pool)
		netsApart(t, "ENetDo", parts, first, second)
	}
	play := slices.Repeat([]impl.EAct{offerAct(0, c), offerAct(1, c), giveAct(0), giveAct(2)}, 3)
	first, _ := impl.ENetPlay(play)
	second, _ := impl.ENetPlay(play)
	var parts nodeParts
	parts.texts, parts.chunks = []string{c.Set, c.Chunks[0]}, [][]string{c.Chunks}
	netsApart(t, "ENetPlay", parts, first, second)
}

func roomyNet(x impl.ENet) impl.ENet {
	x = freshNet(x)
	for i, n := range x.Nodes {
		x.Nodes[i] = roomyNode(n)
	}
	for i, m := range x.Pool {
		x.Pool[i] = roomyMsg(m)
	}
	x.Nodes, x.Pool = withRoom(x.Nodes, impl.ENode{Me: 3}), withRoom(x.Pool, impl.EMsg{Kind: 8})
	return x
}

// wholeNet shows lists with their unused capacity.
func wholeNet(x impl.ENet) impl.ENet {
	x.Nodes, x.Pool = slices.Clone(x.Nodes[:cap(x.Nodes)]), slices.Clone(x.Pool[:cap(x.Pool)])
	for i, n := range x.Nodes {
		x.Nodes[i] = wholeNode(n)
	}
	for i, m := range x.Pool {
		x.Pool[i] = wholeMsg(m)
	}
	return x
}

func wholeActs(acts []impl.EAct) []impl.EAct {
	acts = slices.Clone(acts[:cap(acts)])
	for i, a := range acts {
		acts[i].Cmd = wholeCmd(a.Cmd)
	}
	return acts
}

func TestNetFunctionsChangeNoArgument(t *testing.T) {
	invalid := busyNet()
	invalid.Pool = append(invalid.Pool, freshMsg(invalid.Pool[0]))
	full := busyNet()
	full.Pool = append(full.Pool, manyMsgs(160-len(full.Pool))...)
	for _, net := range []impl.ENet{newNet(), busyNet(), invalid, full} {
		for _, a := range allKindsActs(busyNet()) {
			x := roomyNet(net)
			a.Cmd = roomyCmd(a.Cmd)
			before, cmd := wholeNet(x), wholeCmd(a.Cmd)
			impl.ENetOk(x)
			impl.ENetDo(x, a)
			impl.ENetDo(x, a)
			if !reflect.DeepEqual(wholeNet(x), before) || !reflect.DeepEqual(wholeCmd(a.Cmd), cmd) {
				t.Fatalf("%+v: the network has become\n%+v, it was\n%+v", a, wholeNet(x), before)
			}
		}
	}
	acts := withRoom(freshActs(append(busyActs(), everyAct(busyNet())...)), fallAct(9))
	for i, a := range acts {
		acts[i].Cmd = roomyCmd(a.Cmd)
	}
	before := wholeActs(acts)
	impl.ENetPlay(acts)
	impl.ENetPlay(acts[:5])
	if !reflect.DeepEqual(wholeActs(acts), before) {
		t.Errorf("the acts have become %+v, they were %+v", wholeActs(acts), before)
	}
}

func TestNetFunctionsKeepNoState(t *testing.T) {
	var first []netEnd
	acts := allKindsActs(busyNet())
	for _, a := range acts {
		first = append(first, tryAct(t, busyNet(), a))
	}
	x, count := impl.ENetPlay(busyActs())
	for seed := range 3 {
		p := newPlay(seed)
		for range 50 {
			p.act(t)
		}
		impl.ENetPlay(p.acts)
		impl.ENetPlay(make([]impl.EAct, 301))
	}
	for i, a := range acts {
		if again := tryAct(t, busyNet(), a); again.ok != first[i].ok || !equalNets(again.net, first[i].net) {
			t.Errorf("%+v has another result later", a)
		}
	}
	if y, n := impl.ENetPlay(busyActs()); n != count || !equalNets(y, x) || !equalNets(impl.ENetNew(), newNet()) {
		t.Errorf("ENetPlay has another result later: %d %+v, it was %d %+v", n, y, count, x)
	}
}
