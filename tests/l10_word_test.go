package tests

import (
	"encoding/binary"
	"math"
	"reflect"
	"slices"
	"strings"
	"testing"

	"loop.example/g00954/impl"
)

// msgField is a field that is a number, with its least and its greatest value.
type msgField struct {
	name string
	at   func(*impl.EMsg) *int
	low  int
	high int
}

func msgFields() []msgField {
	return []msgField{
		{"Kind", func(m *impl.EMsg) *int { return &m.Kind }, 1, 7},
		{"From", func(m *impl.EMsg) *int { return &m.From }, 0, 2},
		{"To", func(m *impl.EMsg) *int { return &m.To }, 0, 2},
		{"Rep", func(m *impl.EMsg) *int { return &m.Id.Rep }, 0, 2},
		{"Slot", func(m *impl.EMsg) *int { return &m.Id.Slot }, 1, 6},
		{"Bal", func(m *impl.EMsg) *int { return &m.Bal }, 0, 600},
		{"Status", func(m *impl.EMsg) *int { return &m.Status }, 0, 3},
		{"VBal", func(m *impl.EMsg) *int { return &m.VBal }, -1, 600},
		{"Seq", func(m *impl.EMsg) *int { return &m.Seq }, 0, 60},
	}
}

// wordPart is a piece of an encoding: a number, or what stands between numbers.
type wordPart struct {
	name   string
	text   string
	number bool
}

// wordParts splits the encoding of a message, be it valid or not; a negative
// number becomes a great one.
func wordParts(m impl.EMsg) []wordPart {
	var parts []wordPart
	number := func(name string, n int) {
		parts = append(parts, wordPart{name, string(binary.AppendUvarint(nil, uint64(n))), true})
	}
	number("Kind", m.Kind)
	number("From", m.From)
	number("To", m.To)
	number("Rep", m.Id.Rep)
	number("Slot", m.Id.Slot)
	number("Bal", m.Bal)
	number("Status", m.Status)
	number("VBal", m.VBal+1)
	number("Seq", m.Seq)
	same := "\x00"
	if m.Same {
		same = "\x01"
	}
	parts = append(parts, wordPart{name: "Same", text: same})
	cmd := rawCmd(m.Cmd)
	number("length of Cmd", len(cmd))
	parts = append(parts, wordPart{name: "Cmd", text: cmd})
	number("number of Deps", len(m.Deps))
	for _, id := range m.Deps {
		number("Rep of Deps", id.Rep)
		number("Slot of Deps", id.Slot)
	}
	return parts
}

func joinParts(parts []wordPart) string {
	var b strings.Builder
	for _, p := range parts {
		b.WriteString(p.text)
	}
	return b.String()
}

func rawMsg(m impl.EMsg) string {
	return joinParts(wordParts(m))
}

// rawWith is the encoding with another text in place of this part.
func rawWith(m impl.EMsg, name string, text string) string {
	parts := wordParts(m)
	parts[partOf(parts, name)].text = text
	return joinParts(parts)
}

func partOf(parts []wordPart, name string) int {
	return slices.IndexFunc(parts, func(p wordPart) bool { return p.name == name })
}

// wantReadMsg reads loosely and then asks whether the result is written as s.
func wantReadMsg(s string) (impl.EMsg, bool) {
	rest := s
	number := func() int {
		n, size := binary.Uvarint([]byte(rest[:min(len(rest), 10)]))
		rest = rest[max(size, 0):]
		return int(n)
	}
	text := func(size int) string {
		size = min(max(size, 0), len(rest))
		taken := rest[:size]
		rest = rest[size:]
		return taken
	}
	var m impl.EMsg
	for _, field := range []*int{&m.Kind, &m.From, &m.To, &m.Id.Rep, &m.Id.Slot, &m.Bal, &m.Status, &m.VBal, &m.Seq} {
		*field = number()
	}
	m.VBal--
	m.Same = text(1) == "\x01"
	m.Cmd, _ = wantReadCmd(text(number()))
	for range min(max(number(), 0), 30) {
		m.Deps = append(m.Deps, idOf(number(), number()))
	}
	if !wantMsgOk(m) || rawMsg(m) != s {
		return impl.EMsg{}, false
	}
	return m, true
}

// checkReadMsg reports whether the string is accepted.
func checkReadMsg(t *testing.T, s string) bool {
	t.Helper()
	want, wantOk := wantReadMsg(s)
	got, ok := impl.ReadEMsg(s)
	if ok != wantOk || !equalMsgs(got, want) {
		t.Fatalf("ReadEMsg(%.200q) = %+v %v, want %+v %v", s, got, ok, want, wantOk)
	}
	if ok && impl.ShowEMsg(got) != s {
		t.Fatalf("ReadEMsg accepts %q, ShowEMsg writes %q", s, impl.ShowEMsg(got))
	}
	return ok
}

func rejectMsg(t *testing.T, what string, s string) {
	t.Helper()
	if m, ok := impl.ReadEMsg(s); ok || !equalMsgs(m, impl.EMsg{}) {
		t.Fatalf("%s: ReadEMsg(%.200q) = %+v %v", what, s, m, ok)
	}
	checkReadMsg(t, s)
}

func acceptMsg(t *testing.T, what string, s string, want impl.EMsg) {
	t.Helper()
	if m, ok := impl.ReadEMsg(s); !ok || !equalMsgs(m, want) {
		t.Fatalf("%s: ReadEMsg(%.200q) = %+v %v, want %+v", what, s, m, ok, want)
	}
	checkReadMsg(t, s)
}

// checkShowMsg holds both directions against the second reading, and reports
// whether the message has an encoding.
func checkShowMsg(t *testing.T, what string, m impl.EMsg) bool {
	t.Helper()
	s := impl.ShowEMsg(m)
	if !wantMsgOk(m) {
		if s != "" {
			t.Fatalf("%s: ShowEMsg(%+v) = %q", what, m, s)
		}
		checkReadMsg(t, rawMsg(m))
		return false
	}
	if s != rawMsg(m) {
		t.Fatalf("%s: ShowEMsg(%+v) = %q, want %q", what, m, s, rawMsg(m))
	}
	if got, ok := impl.ReadEMsg(s); !ok || !equalMsgs(got, m) || !impl.SameMsg(got, m) || !impl.EMsgOk(got) {
		t.Fatalf("%s: ReadEMsg(%q) = %+v %v, want %+v", what, s, got, ok, m)
	}
	return true
}

func checkSameMsg(t *testing.T, a impl.EMsg, b impl.EMsg, want bool) {
	t.Helper()
	if equalMsgs(a, b) != want {
		t.Fatalf("the second reading of %+v and %+v is %v", a, b, !want)
	}
	if impl.SameMsg(a, b) != want || impl.SameMsg(b, a) != want {
		t.Fatalf("SameMsg of %+v and %+v: %v and %v, want %v", a, b, impl.SameMsg(a, b), impl.SameMsg(b, a), want)
	}
}

// leastMsg has the least value in each field, greatMsg the greatest one, the
// longest command and all Deps that it can have.
func leastMsg() impl.EMsg {
	return impl.EMsg{Kind: impl.EkPre, From: 0, To: 1, Id: idOf(0, 1), VBal: -1}
}

func greatMsg() impl.EMsg {
	chunks := slices.Repeat([]string{"\xff\xff\xff\xff\xff\xff\xff\xff"}, 4)
	return impl.EMsg{
		Kind: impl.EkPrepOk, From: 1, To: 2, Id: idOf(2, 6), Bal: 600, Status: impl.EsCom, VBal: 600, Seq: 60, Same: true,
		Cmd:  impl.Cmd{Kind: impl.CmCommit, Client: 9, No: 1000, Set: "zzzzzzzz", Name: "zzzzzzzz", Chunks: chunks},
		Deps: wantOfAll(func(id impl.Id) bool { return id != idOf(2, 6) }),
	}
}

// validMsgs has each Kind with nothing but what is necessary and with values in
// all fields, each kind of command, and no, one and many Deps.
func validMsgs() []impl.EMsg {
	all := append(baseMsgs(), leastMsg(), greatMsg())
	for kind := 1; kind <= 7; kind++ {
		m := leastMsg()
		m.Kind, m.From, m.To, m.VBal = kind, 2, kind%2, kind%2-1
		all = append(all, m)
	}
	for i, c := range validCmds() {
		m := baseMsgs()[i%7]
		m.Cmd, m.Same, m.Deps = c, i%2 == 0, wantOfAll(func(id impl.Id) bool { return id != m.Id && idNumber(id)%3 == i%3 })
		all = append(all, m)
		m.Deps = m.Deps[:i%3]
		all = append(all, m)
	}
	return all
}

// fewMsgs are for tests that go through all bytes of each.
func fewMsgs() []impl.EMsg {
	list, tag := baseMsgs()[1], baseMsgs()[4]
	list.Cmd, list.Deps, list.Bal = listOf(), []impl.Id{idOf(1, 1), idOf(1, 3)}, 300
	tag.Cmd, tag.Deps, tag.Same, tag.VBal = validCmds()[8], nil, false, 127
	return []impl.EMsg{leastMsg(), baseMsgs()[6], list, tag, greatMsg()}
}

// changedMsgs calls visit with copies of m in which one field has another value.
func changedMsgs(m impl.EMsg, visit func(string, impl.EMsg)) {
	for _, f := range msgFields() {
		numbers := append([]int{f.low - 2, f.low - 1, f.low, f.low + 1, f.high - 1, f.high, f.high + 1, f.high + 2}, bigNumbers()...)
		for _, n := range append(numbers, someInts...) {
			d := m
			*f.at(&d) = n
			visit(f.name, d)
		}
	}
	d := m
	d.Same = !m.Same
	visit("Same", d)
	changedCmds(m.Cmd, func(c impl.Cmd) {
		d := m
		d.Cmd = c
		visit("Cmd", d)
	})
	for _, c := range depsCases()[:len(depsCases())-1] {
		d := m
		d.Deps = c.deps
		visit("Deps", d)
	}
	for at := range m.Deps {
		for _, id := range append(otherIds(), idOf(0, 1), idOf(2, 6)) {
			d := m
			d.Deps = slices.Clone(m.Deps)
			d.Deps[at].Rep = id.Rep
			visit("Rep of Deps", d)
			d.Deps = slices.Clone(m.Deps)
			d.Deps[at].Slot = id.Slot
			visit("Slot of Deps", d)
		}
	}
}

func TestSameMsgLooksAtEveryField(t *testing.T) {
	full := impl.EMsg{
		Kind: 3, From: 1, To: 2, Id: idOf(2, 3), Bal: 4, Seq: 5, Status: 1, VBal: 6, Same: true, Deps: []impl.Id{idOf(0, 1), idOf(1, 4)},
		Cmd: impl.Cmd{Kind: 3, Client: 4, No: 5, Set: "s", Name: "n", Tag: "t", N: 6, Chunks: []string{idA, idB}},
	}
	checkSameMsg(t, full, freshMsg(full), true)
	changes := []func(*impl.EMsg){
		func(m *impl.EMsg) { m.Kind = 4 },
		func(m *impl.EMsg) { m.From = 0 },
		func(m *impl.EMsg) { m.To = 0 },
		func(m *impl.EMsg) { m.From, m.To = m.To, m.From },
		func(m *impl.EMsg) { m.Id.Rep = 1 },
		func(m *impl.EMsg) { m.Id.Slot = 2 },
		func(m *impl.EMsg) { m.Id.Rep, m.Id.Slot = m.Id.Slot, m.Id.Rep },
		func(m *impl.EMsg) { m.Bal = 5 },
		func(m *impl.EMsg) { m.Status = 2 },
		func(m *impl.EMsg) { m.VBal = 7 },
		func(m *impl.EMsg) { m.VBal, m.Bal = m.Bal, m.VBal },
		func(m *impl.EMsg) { m.Seq = 4 },
		func(m *impl.EMsg) { m.Same = false },
		func(m *impl.EMsg) { m.Cmd.Kind = 4 },
		func(m *impl.EMsg) { m.Cmd.Client = 3 },
		func(m *impl.EMsg) { m.Cmd.No = 4 },
		func(m *impl.EMsg) { m.Cmd.Set = "r" },
		func(m *impl.EMsg) { m.Cmd.Name = "nn" },
		func(m *impl.EMsg) { m.Cmd.Tag = "" },
		func(m *impl.EMsg) { m.Cmd.N = 7 },
		func(m *impl.EMsg) { m.Cmd.Chunks = []string{idA} },
		func(m *impl.EMsg) { m.Cmd.Chunks = []string{idB, idA} },
		func(m *impl.EMsg) { m.Cmd.Chunks = []string{idA, idB, ""} },
		func(m *impl.EMsg) { m.Cmd.Chunks = nil },
		func(m *impl.EMsg) { m.Deps = nil },
		func(m *impl.EMsg) { m.Deps = m.Deps[:1] },
		func(m *impl.EMsg) { m.Deps = m.Deps[1:] },
		func(m *impl.EMsg) { m.Deps = append(m.Deps, idOf(2, 6)) },
		func(m *impl.EMsg) { m.Deps = append(m.Deps, impl.Id{}) },
		func(m *impl.EMsg) { m.Deps[0].Rep = 1 },
		func(m *impl.EMsg) { m.Deps[0].Slot = 2 },
		func(m *impl.EMsg) { m.Deps[1].Rep = 0 },
		func(m *impl.EMsg) { m.Deps[1].Slot = 5 },
		func(m *impl.EMsg) { m.Deps[0], m.Deps[1] = m.Deps[1], m.Deps[0] },
	}
	for i, change := range changes {
		d := freshMsg(full)
		change(&d)
		if impl.SameMsg(full, d) || impl.SameMsg(d, full) {
			t.Error("same as number", i)
		}
		checkSameMsg(t, full, d, false)
		checkSameMsg(t, d, freshMsg(d), true)
	}
}

func TestSameMsgOfAllKinds(t *testing.T) {
	for _, m := range append(fewMsgs(), impl.EMsg{}, impl.EMsg{Kind: -1, Deps: []impl.Id{{}}}) {
		checkSameMsg(t, m, freshMsg(m), true)
		changedMsgs(m, func(what string, d impl.EMsg) {
			checkSameMsg(t, m, d, equalMsgs(m, d))
			checkSameMsg(t, d, freshMsg(d), true)
		})
	}
	all := validMsgs()
	for _, a := range all {
		for _, b := range all {
			checkSameMsg(t, a, b, equalMsgs(a, b))
		}
	}
}

// Invalid messages are compared as well, whatever their numbers are.
func TestSameMsgOfInvalidMessages(t *testing.T) {
	for _, f := range msgFields() {
		for _, base := range []impl.EMsg{{}, leastMsg(), greatMsg()} {
			for _, n := range bigNumbers() {
				for _, k := range append(bigNumbers(), n, n-1, -n) {
					a, b := base, base
					*f.at(&a), *f.at(&b) = n, k
					checkSameMsg(t, a, b, n == k)
				}
			}
		}
	}
	for _, x := range otherIds() {
		for _, y := range otherIds() {
			a, b := leastMsg(), leastMsg()
			a.Deps, b.Deps = []impl.Id{idOf(0, 2), x}, []impl.Id{idOf(0, 2), y}
			checkSameMsg(t, a, b, x == y)
			a.Id, b.Id = x, y
			checkSameMsg(t, a, b, x == y)
		}
	}
	for i, x := range invalidCmds() {
		for j, y := range invalidCmds() {
			a, b := leastMsg(), leastMsg()
			a.Cmd, b.Cmd = x, y
			checkSameMsg(t, a, b, i == j)
		}
	}
	checkSameMsg(t, impl.EMsg{}, impl.EMsg{}, true)
	long := leastMsg()
	long.Deps = slices.Repeat([]impl.Id{idOf(0, 2)}, 10000)
	longer := freshMsg(long)
	checkSameMsg(t, long, longer, true)
	longer.Deps[9999].Slot = 3
	checkSameMsg(t, long, longer, false)
	checkShowMsg(t, "many Deps", long)
}

func TestNilAndEmptyListsOfMessagesAreEqual(t *testing.T) {
	for _, m := range append(validMsgs(), impl.EMsg{}, impl.EMsg{Kind: 9, Seq: math.MinInt}) {
		chunks := [][]string{m.Cmd.Chunks, withRoom(m.Cmd.Chunks, "spare---")}
		if len(m.Cmd.Chunks) == 0 {
			chunks = append(chunks, nil, []string{}, make([]string, 0, 5))
		}
		deps := [][]impl.Id{m.Deps, withRoom(m.Deps, idOf(9, 9))}
		if len(m.Deps) == 0 {
			deps = append(deps, nil, []impl.Id{}, make([]impl.Id, 0, 5))
		}
		for _, m.Cmd.Chunks = range chunks {
			for _, m.Deps = range deps {
				a := m
				for _, a.Cmd.Chunks = range chunks {
					for _, a.Deps = range deps {
						checkSameMsg(t, a, m, true)
						if impl.ShowEMsg(a) != impl.ShowEMsg(m) {
							t.Fatalf("%#v and %#v are written in two ways", a, m)
						}
					}
				}
			}
		}
	}
}

func TestShowEMsgBytes(t *testing.T) {
	noop := "\x08\x00\x00\x00\x00\x00\x00\x00\x00"
	read := impl.Cmd{Kind: impl.CmRead, Client: 5, No: 3, Set: "yz"}
	commit := impl.Cmd{Kind: impl.CmCommit, Client: 2, No: 300, Set: "a", Name: "bc", Chunks: []string{idB, idA}}
	for _, c := range []struct {
		msg  impl.EMsg
		want string
	}{
		{leastMsg(), "\x01\x00\x01\x00\x01\x00\x00\x00\x00\x00" + noop + "\x00"},
		{impl.EMsg{Kind: impl.EkPre, From: 2, To: 0, Id: idOf(2, 1), Bal: 2, Cmd: read, Seq: 4, Deps: []impl.Id{idOf(0, 1), idOf(0, 2)}, VBal: -1}, "\x01\x02\x00\x02\x01\x02\x00\x00\x04\x00\x0a\x06\x05\x03\x00\x02yz\x00\x00\x00\x02\x00\x01\x00\x02"},
		{impl.EMsg{Kind: impl.EkPreOk, From: 0, To: 2, Id: idOf(2, 1), Bal: 2, Seq: 60, VBal: -1, Same: true}, "\x02\x00\x02\x02\x01\x02\x00\x00\x3c\x01" + noop + "\x00"},
		{impl.EMsg{Kind: impl.EkAcc, From: 1, To: 2, Id: idOf(0, 6), Bal: 127, Cmd: commit, Seq: 1, Deps: []impl.Id{idOf(1, 6)}, VBal: -1}, "\x03\x01\x02\x00\x06\x7f\x00\x00\x01\x00\x1c\x03\x02\xac\x02\x00\x01a\x02bc\x00\x02" + idB + idA + "\x01\x01\x06"},
		{impl.EMsg{Kind: impl.EkAccOk, From: 2, To: 1, Id: idOf(0, 6), Bal: 128, VBal: -1}, "\x04\x02\x01\x00\x06\x80\x01\x00\x00\x00\x00" + noop + "\x00"},
		{impl.EMsg{Kind: impl.EkCom, From: 0, To: 1, Id: idOf(1, 2), Cmd: listOf(), Seq: 2, Deps: []impl.Id{idOf(0, 6), idOf(1, 1), idOf(1, 3), idOf(2, 1)}, VBal: -1}, "\x05\x00\x01\x01\x02\x00\x00\x00\x02\x00\x08\x07\x02\x03\x00\x00\x00\x00\x00\x04\x00\x06\x01\x01\x01\x03\x02\x01"},
		{impl.EMsg{Kind: impl.EkPrep, From: 1, To: 0, Id: idOf(0, 1), Bal: 600, VBal: -1}, "\x06\x01\x00\x00\x01\xd8\x04\x00\x00\x00\x00" + noop + "\x00"},
		{impl.EMsg{Kind: impl.EkPrepOk, From: 2, To: 0, Id: idOf(1, 1), Bal: 599, Status: impl.EsCom, VBal: 0, Seq: 9}, "\x07\x02\x00\x01\x01\xd7\x04\x03\x01\x09\x00" + noop + "\x00"},
		{impl.EMsg{Kind: impl.EkPrepOk, From: 2, To: 0, Id: idOf(1, 1), Bal: 9, Status: impl.EsAcc, VBal: 126, Seq: 9}, "\x07\x02\x00\x01\x01\x09\x02\x7f\x09\x00" + noop + "\x00"},
		{impl.EMsg{Kind: impl.EkPrepOk, From: 2, To: 0, Id: idOf(1, 1), Bal: 9, Status: impl.EsPre, VBal: 127, Seq: 9, Same: true}, "\x07\x02\x00\x01\x01\x09\x01\x80\x01\x09\x01" + noop + "\x00"},
		{impl.EMsg{Kind: impl.EkPrepOk, From: 2, To: 0, Id: idOf(1, 1), Bal: 9, Status: impl.EsPre, VBal: 600, Seq: 9}, "\x07\x02\x00\x01\x01\x09\x01\xd9\x04\x09\x00" + noop + "\x00"},
	} {
		if got := impl.ShowEMsg(c.msg); got != c.want {
			t.Errorf("ShowEMsg(%+v) = %q, want %q", c.msg, got, c.want)
		}
		acceptMsg(t, "known", c.want, c.msg)
	}
}

// TestShowEMsgOfEveryNumber goes through the range of each field, past both of
// its ends, and over the numbers at which a varint becomes longer.
func TestShowEMsgOfEveryNumber(t *testing.T) {
	for _, f := range msgFields() {
		numbers := append(bigNumbers(), 16382, 16383, 16384, 1<<21-1, 1<<21, impl.MaxVar-1, impl.MaxVar, impl.MaxVar+1)
		for n := f.low - 3; n <= f.high+3; n++ {
			numbers = append(numbers, n)
		}
		for i, base := range append(baseMsgs(), leastMsg(), greatMsg()) {
			base.Deps = slices.Clone(base.Deps)
			for _, n := range numbers {
				m := base
				*f.at(&m) = n
				if f.name == "From" && n == m.To {
					m.To = (n + 1) % 3
				}
				if f.name == "To" && n == m.From {
					m.From = (n + 1) % 3
				}
				m.Deps = slices.DeleteFunc(slices.Clone(base.Deps), func(id impl.Id) bool { return id == m.Id })
				if got := checkShowMsg(t, f.name, m); got != (f.low <= n && n <= f.high) {
					t.Fatalf("message %d, %s %d: %v", i, f.name, n, got)
				}
			}
		}
	}
	for from := -1; from <= 3; from++ {
		for to := -1; to <= 3; to++ {
			m := leastMsg()
			m.From, m.To = from, to
			want := from >= 0 && from <= 2 && to >= 0 && to <= 2 && from != to
			if got := checkShowMsg(t, "From and To", m); got != want {
				t.Errorf("From %d, To %d: %v", from, to, got)
			}
		}
	}
}

func TestShowEMsgIsReadBack(t *testing.T) {
	seen := map[string]impl.EMsg{}
	check := func(what string, m impl.EMsg) {
		t.Helper()
		if !checkShowMsg(t, what, m) {
			return
		}
		s := impl.ShowEMsg(m)
		if before, found := seen[s]; found && !equalMsgs(before, m) {
			t.Fatalf("%+v and %+v have one encoding", before, m)
		}
		seen[s] = m
	}
	for _, m := range validMsgs() {
		if !wantMsgOk(m) {
			t.Fatalf("%+v is invalid", m)
		}
		check("valid", m)
	}
	for _, m := range append(fewMsgs(), impl.EMsg{}) {
		changedMsgs(m, check)
	}
	for no := 1; no <= impl.MaxNo+1; no++ {
		m := leastMsg()
		m.Cmd = impl.Cmd{Kind: impl.CmList, Client: 1 + no%9, No: no}
		check("No", m)
	}
	if len(seen) < 1300 {
		t.Errorf("only %d messages are valid", len(seen))
	}
}

func TestShowEMsgOfInvalidMessages(t *testing.T) {
	empty := func(what string, m impl.EMsg) {
		t.Helper()
		if s := impl.ShowEMsg(m); s != "" {
			t.Errorf("%s: ShowEMsg(%+v) = %q", what, m, s)
		}
	}
	empty("zero", impl.EMsg{})
	for _, m := range validMsgs() {
		for _, f := range msgFields() {
			for _, n := range []int{f.low - 1, f.high + 1, math.MinInt, math.MaxInt, -1 << 32, 1 << 32} {
				d := m
				*f.at(&d) = n
				empty(f.name, d)
			}
		}
		d := m
		d.To = d.From
		empty("From is To", d)
		for _, id := range otherIds() {
			d := m
			d.Id = id
			empty("Id", d)
			d = m
			d.Deps = append(slices.Clone(m.Deps), id)
			empty("the last of Deps", d)
			d.Deps = append([]impl.Id{id}, m.Deps...)
			empty("the first of Deps", d)
		}
		for _, c := range invalidCmds() {
			d := m
			d.Cmd = c
			empty("Cmd", d)
		}
		for at := range len(m.Deps) + 1 {
			d := m
			d.Deps = slices.Insert(slices.Clone(m.Deps), at, m.Id)
			empty("the own Id", d)
		}
	}
}

func TestReadEMsgRejectsPrefixesAndLongerStrings(t *testing.T) {
	rejectMsg(t, "empty", "")
	for _, m := range validMsgs() {
		s := impl.ShowEMsg(m)
		acceptMsg(t, "whole", s, m)
		for size := range len(s) {
			rejectMsg(t, "prefix", s[:size])
		}
		for b := range 256 {
			rejectMsg(t, "a byte more", s+string([]byte{byte(b)}))
		}
		rejectMsg(t, "twice", s+s)
		rejectMsg(t, "an Id more", s+"\x02\x05")
		rejectMsg(t, "a byte before", "\x01"+s)
		rejectMsg(t, "without the first byte", s[1:])
	}
}

func TestReadEMsgOfChangedEncodings(t *testing.T) {
	changed, accepted := 0, 0
	for _, m := range fewMsgs() {
		s := impl.ShowEMsg(m)
		for at := range len(s) {
			for b := range 256 {
				one := string([]byte{byte(b)})
				if checkReadMsg(t, s[:at]+one+s[at+1:]) && one != s[at:at+1] {
					accepted++
				}
				changed++
				checkReadMsg(t, s[:at]+one+s[at:])
			}
			checkReadMsg(t, s[:at]+s[at+1:])
		}
	}
	// A changed byte gives another message where it is in a chunk, for instance.
	if accepted == 0 || accepted == changed {
		t.Errorf("%d of %d are accepted", accepted, changed)
	}
}

// numberForms are other ways to write a number, none of which Var has.
func numberForms(number string) []string {
	last := len(number) - 1
	n, _ := impl.ReadVar(number)
	forms := []string{
		number[:last] + string([]byte{number[last] + 128, 0}),
		number[:last] + string([]byte{number[last] + 128, 128, 0}),
		number[:last] + string([]byte{number[last] + 128, 128, 128, 128, 128, 128, 0}),
		number[:last] + string([]byte{number[last] + 128}),
		"",
		"\xff\xff\xff\xff\xff\xff\xff\xff\xff\xff",
		string(binary.AppendUvarint(nil, impl.MaxVar+1)),
		string(binary.AppendUvarint(nil, math.MaxInt)),
		string(binary.AppendUvarint(nil, math.MaxUint64)),
	}
	for shift := 10; shift < 64; shift++ {
		// Taken modulo a power of 2, these are the numbers that were there.
		forms = append(forms, string(binary.AppendUvarint(nil, uint64(1)<<shift+uint64(n))))
	}
	return forms
}

func TestReadEMsgRejectsOtherNumbers(t *testing.T) {
	for _, m := range append(validMsgs(), fewMsgs()...) {
		parts := wordParts(m)
		for i, part := range parts {
			if !part.number {
				continue
			}
			with := func(number string) string {
				changed := slices.Clone(parts)
				changed[i].text = number
				return joinParts(changed)
			}
			for _, form := range numberForms(part.text)[:3] {
				rejectMsg(t, part.name+" with superfluous bytes", with(form))
			}
			for _, form := range numberForms(part.text)[5:] {
				rejectMsg(t, part.name+" far too great", with(form))
			}
			for _, form := range numberForms(part.text) {
				checkReadMsg(t, with(form))
			}
		}
	}
	for _, m := range fewMsgs() {
		parts := wordParts(m)
		for i, part := range parts {
			if !part.number {
				continue
			}
			for n := range 700 {
				changed := slices.Clone(parts)
				changed[i].text = impl.Var(n)
				checkReadMsg(t, joinParts(changed))
			}
		}
	}
}

// The numbers in the command are read by ReadCmd; here the length of the command
// fits, however they are written.
func TestReadEMsgRejectsOtherNumbersInTheCommand(t *testing.T) {
	for i, c := range validCmds() {
		m := baseMsgs()[i%7]
		m.Cmd = c
		parts, isNumber := cmdParts(c)
		for at, part := range parts {
			if !isNumber[at] {
				continue
			}
			for _, form := range numberForms(part) {
				changed := slices.Clone(parts)
				changed[at] = form
				rejectMsg(t, "a number of the command", withCmdText(m, strings.Join(changed, "")))
			}
		}
	}
}

// withCmdText is the encoding with any string as the command, and its length.
func withCmdText(m impl.EMsg, cmd string) string {
	parts := wordParts(m)
	parts[partOf(parts, "length of Cmd")].text = impl.Var(len(cmd))
	parts[partOf(parts, "Cmd")].text = cmd
	return joinParts(parts)
}

func TestReadEMsgOfSame(t *testing.T) {
	for _, m := range validMsgs() {
		for b := range 256 {
			s := rawWith(m, "Same", string([]byte{byte(b)}))
			if b > 1 {
				rejectMsg(t, "Same", s)
				continue
			}
			d := m
			d.Same = b == 1
			acceptMsg(t, "Same", s, d)
		}
		for _, same := range []string{"", "\x80\x00", "\x81\x00", "\x00\x00", "\x01\x01", "\x00\x01", "\x81", "\x80\x01", "\xff\x01"} {
			rejectMsg(t, "Same of other bytes", rawWith(m, "Same", same))
		}
	}
}

func TestReadEMsgRejectsFieldsOutOfRange(t *testing.T) {
	for _, m := range validMsgs() {
		for _, f := range msgFields() {
			// The varint of VBal is one more than VBal, and has no less than 0.
			shift := 0
			if f.name == "VBal" {
				shift = 1
			}
			for _, n := range []int{f.low - 1, f.high + 1, f.high + 2, 127, 128, 16383, 16384, 1 << 32, impl.MaxVar - 1} {
				if n+shift < 0 || f.low <= n && n <= f.high {
					continue
				}
				rejectMsg(t, f.name, rawWith(m, f.name, impl.Var(n+shift)))
			}
		}
		rejectMsg(t, "VBal of MaxVar", rawWith(m, "VBal", impl.Var(impl.MaxVar)))
		rejectMsg(t, "To is From", rawWith(m, "To", impl.Var(m.From)))
		rejectMsg(t, "From is To", rawWith(m, "From", impl.Var(m.To)))
	}
}

func TestReadEMsgOfTheLengthOfTheCommand(t *testing.T) {
	for _, m := range validMsgs() {
		cmd := impl.ShowCmd(m.Cmd)
		acceptMsg(t, "as it is", withCmdText(m, cmd), m)
		for _, size := range []int{0, len(cmd) - 1, len(cmd) + 1, len(cmd) + 2, 127, 128, 16383, 16384, 1 << 32, impl.MaxVar} {
			rejectMsg(t, "another length", rawWith(m, "length of Cmd", impl.Var(size)))
		}
		for size := range len(cmd) {
			rejectMsg(t, "a prefix of a command", withCmdText(m, cmd[:size]))
		}
		for _, more := range []string{"\x00", "\x01", "a", "\xff", idA, cmd, strings.Repeat("\x00", 127-len(cmd)), strings.Repeat("\x00", 128-len(cmd)), strings.Repeat("a", 20000)} {
			rejectMsg(t, "more than a command", withCmdText(m, cmd+more))
		}
		rejectMsg(t, "before a command", withCmdText(m, "\x00"+cmd))
		end := joinParts(wordParts(m)[:partOf(wordParts(m), "length of Cmd")])
		for size := range 300 {
			checkReadMsg(t, end+impl.Var(size)+cmd)
			checkReadMsg(t, end+impl.Var(size)+strings.Repeat("\x00", size))
		}
	}
}

func TestReadEMsgRejectsWhatIsNoCommand(t *testing.T) {
	accepted := 0
	for i, c := range invalidCmds() {
		m := baseMsgs()[i%7]
		m.Cmd = c
		if checkReadMsg(t, rawMsg(m)) {
			accepted++
		}
	}
	// Chunks of 8, 7 and 9 bytes are written like three others of 8.
	if accepted != 1 {
		t.Errorf("%d invalid commands are taken for valid ones", accepted)
	}
	for _, m := range fewMsgs() {
		for _, c := range validCmds() {
			changedCmds(c, func(d impl.Cmd) {
				if d.Chunks == nil || len(d.Chunks) < 100 {
					m.Cmd = d
					checkReadMsg(t, rawMsg(m))
				}
			})
		}
	}
}

func TestReadEMsgOfTheNumberOfDeps(t *testing.T) {
	for _, m := range validMsgs() {
		for _, more := range []int{-2, -1, 1, 2, 17, 18, 128, 16384, 1<<31 + 1, 1 << 40, impl.MaxVar - 17} {
			if count := len(m.Deps) + more; count >= 0 {
				rejectMsg(t, "another number of Deps", rawWith(m, "number of Deps", impl.Var(count)))
			}
		}
		rejectMsg(t, "no number of Deps", joinParts(wordParts(m)[:partOf(wordParts(m), "number of Deps")]))
	}
	for _, own := range allIds() {
		m := leastMsg()
		m.Id = own
		others := wantOfAll(func(id impl.Id) bool { return id != own })
		for count := range len(others) + 1 {
			m.Deps = others[:count]
			acceptMsg(t, "several", rawMsg(m), m)
			m.Deps = others[len(others)-count:]
			acceptMsg(t, "the last ones", rawMsg(m), m)
		}
		m.Deps = allIds()
		rejectMsg(t, "all", rawMsg(m))
		m.Deps = append(slices.Clone(others), idOf(2, 7))
		rejectMsg(t, "all others and one that is none", rawMsg(m))
		m.Deps = append(slices.Clone(others), idOf(3, 1))
		rejectMsg(t, "all others and one of a fourth node", rawMsg(m))
		m.Deps = slices.Repeat(others, 2000)
		rejectMsg(t, "very many", rawMsg(m))
	}
}

// wantDeps tells whether a message with this Id and Deps is written and read.
func wantDeps(t *testing.T, what string, own impl.Id, deps []impl.Id, want bool) {
	t.Helper()
	m := baseMsgs()[0]
	m.Id, m.Deps = own, deps
	if want {
		if s := impl.ShowEMsg(m); s != rawMsg(m) {
			t.Fatalf("%s: ShowEMsg(%+v) = %q", what, m, s)
		}
		acceptMsg(t, what, rawMsg(m), m)
		return
	}
	if s := impl.ShowEMsg(m); s != "" {
		t.Fatalf("%s: ShowEMsg(%+v) = %q", what, m, s)
	}
	rejectMsg(t, what, rawMsg(m))
}

func TestAdjacentIds(t *testing.T) {
	ids := func(l ...impl.Id) []impl.Id { return l }
	for _, c := range []struct {
		what string
		own  impl.Id
		deps []impl.Id
		want bool
	}{
		{"two Slots of a node", idOf(2, 3), ids(idOf(0, 1), idOf(0, 2)), true},
		{"the last two Slots", idOf(2, 3), ids(idOf(0, 5), idOf(0, 6)), true},
		{"the last Slot and the first one of the next node", idOf(2, 3), ids(idOf(0, 6), idOf(1, 1)), true},
		{"from the second node to the third one", idOf(2, 3), ids(idOf(1, 6), idOf(2, 1)), true},
		{"all three of each", idOf(2, 3), ids(idOf(0, 1), idOf(0, 2), idOf(0, 6), idOf(1, 1), idOf(1, 6), idOf(2, 1)), true},
		{"before and after the own Id", idOf(1, 3), ids(idOf(1, 2), idOf(1, 4)), true},
		{"just before the own Id", idOf(1, 3), ids(idOf(1, 2)), true},
		{"just after the own Id", idOf(1, 3), ids(idOf(1, 4)), true},
		{"before and after the first Slot of a node", idOf(1, 1), ids(idOf(0, 6), idOf(1, 2)), true},
		{"before and after the last Slot of a node", idOf(1, 6), ids(idOf(1, 5), idOf(2, 1)), true},
		{"after the very first Id", idOf(0, 1), ids(idOf(0, 2)), true},
		{"before the very last Id", idOf(2, 6), ids(idOf(2, 5)), true},
		{"equal ones", idOf(2, 3), ids(idOf(0, 1), idOf(0, 1)), false},
		{"equal ones among others", idOf(2, 3), ids(idOf(0, 1), idOf(0, 2), idOf(0, 2), idOf(0, 3)), false},
		{"equal last Slots", idOf(2, 3), ids(idOf(0, 6), idOf(0, 6), idOf(1, 1)), false},
		{"equal first Slots", idOf(2, 3), ids(idOf(0, 6), idOf(1, 1), idOf(1, 1)), false},
		{"descending Slots", idOf(2, 3), ids(idOf(0, 2), idOf(0, 1)), false},
		{"descending nodes", idOf(2, 3), ids(idOf(1, 1), idOf(0, 6)), false},
		{"descending nodes in the end", idOf(2, 3), ids(idOf(0, 1), idOf(2, 1), idOf(1, 6)), false},
		{"descending with equal Slots", idOf(2, 3), ids(idOf(1, 4), idOf(0, 4)), false},
		{"the own Id", idOf(1, 3), ids(idOf(1, 3)), false},
		{"the own Id between its neighbours", idOf(1, 3), ids(idOf(1, 2), idOf(1, 3), idOf(1, 4)), false},
		{"the own Id behind the last Slot of a node", idOf(1, 1), ids(idOf(0, 6), idOf(1, 1)), false},
		{"the own Id before the first Slot of a node", idOf(1, 6), ids(idOf(1, 6), idOf(2, 1)), false},
		{"a Slot before the first one", idOf(2, 3), ids(idOf(0, 6), idOf(1, 0)), false},
		{"a Slot before the very first one", idOf(2, 3), ids(idOf(0, 0), idOf(0, 1)), false},
		{"a Slot behind the last one", idOf(2, 3), ids(idOf(0, 6), idOf(0, 7)), false},
		{"a Slot behind the last one, and the next node", idOf(2, 3), ids(idOf(0, 7), idOf(1, 1)), false},
		{"a node behind the last one", idOf(2, 3), ids(idOf(2, 6), idOf(3, 1)), false},
	} {
		wantDeps(t, c.what, c.own, c.deps, c.want)
	}
}

// TestDepsOfAllPairs has all Ids next to each other, for each own Id.
func TestDepsOfAllPairs(t *testing.T) {
	near := append(allIds(), idOf(0, 0), idOf(0, 7), idOf(1, 0), idOf(1, 7), idOf(2, 0), idOf(2, 7), idOf(3, 1), idOf(3, 6))
	for _, own := range allIds() {
		for _, a := range near {
			valid := idNumber(a) >= 0 && a != own
			wantDeps(t, "one", own, []impl.Id{a}, valid)
			for _, b := range near {
				wantDeps(t, "two", own, []impl.Id{a, b}, valid && idNumber(b) > idNumber(a) && b != own)
			}
		}
	}
	for seed := range 3000 {
		r := lcg(seed + 60)
		own := allIds()[r.below(18)]
		deps := anyDeps(&r, own)
		switch at := r.below(len(deps) + 1); {
		case r.below(2) == 0:
			deps = slices.Insert(deps, at, allIds()[r.below(18)])
		case at > 1:
			deps[at-1], deps[at-2] = deps[at-2], deps[at-1]
		}
		wantDeps(t, "several", own, deps, wantIdsOk(deps) && !slices.Contains(deps, own))
	}
}

func TestReadEMsgOfAnyString(t *testing.T) {
	stringsUpTo(allBytes(), 2, func(s string) { rejectMsg(t, "short", s) })
	stringsUpTo("\x00\x01\x02\x08\x80", 7, func(s string) { checkReadMsg(t, s) })
	head := "\x01\x00\x01\x00\x01\x00\x00\x00\x00\x00\x08\x00\x00\x00\x00\x00\x00\x00\x00"
	accepted := 0
	stringsUpTo("\x00\x01\x02\x06\x80", 6, func(s string) {
		if checkReadMsg(t, head+s) {
			accepted++
		}
	})
	// No Deps, one, and two of them: {0, 2}, {0, 6}, {1, 1}, {1, 2}, {1, 6}, {2, 1}, {2, 2}, {2, 6}.
	if accepted != 1+8+28 {
		t.Errorf("%d are accepted", accepted)
	}
	for size := range 120 {
		for seed := range uint64(30) {
			checkReadMsg(t, someBytes(seed+1000*uint64(size), size))
			checkReadMsg(t, head+someBytes(seed+1000*uint64(size), size))
		}
		for _, one := range []string{"\x00", "\x01", "\x7f", "\x80", "\xff"} {
			checkReadMsg(t, strings.Repeat(one, size))
		}
	}
	rejectMsg(t, "long", strings.Repeat("\x01", 1<<22))
	rejectMsg(t, "a long command", head[:10]+impl.Var(1<<22)+strings.Repeat("\x00", 1<<22)+"\x00")
	rejectMsg(t, "many Deps", head+impl.Var(1<<20)+strings.Repeat("\x00\x02", 1<<20))
}

// Whatever nodes say to each other is read back, and two messages have one
// encoding exactly if they are the same.
func TestWireOfThreeNodes(t *testing.T) {
	kinds, several := map[int]int{}, 0
	for seed := range 40 {
		r := lcg(seed + 7000)
		x := newThree(false)
		for range 200 {
			x.act(t, &r)
		}
		for i, m := range x.pool {
			if !checkShowMsg(t, "sent", m) {
				t.Fatalf("%+v is sent", m)
			}
			kinds[m.Kind]++
			for _, other := range x.pool[:i] {
				same := impl.ShowEMsg(m) == impl.ShowEMsg(other)
				checkSameMsg(t, m, other, same)
				if same {
					several++
				}
			}
		}
	}
	for kind := 1; kind <= 7; kind++ {
		if kinds[kind] == 0 {
			t.Errorf("no message of Kind %d", kind)
		}
	}
	if several == 0 {
		t.Error("no message is sent twice")
	}
}

func anyValidMsg(r *lcg) impl.EMsg {
	from := r.below(3)
	m := impl.EMsg{Kind: 1 + r.below(7), From: from, To: (from + 1 + r.below(2)) % 3, Id: allIds()[r.below(18)], Bal: r.below(601), Cmd: validCmds()[r.below(16)], Seq: r.below(61), Status: r.below(4), VBal: r.below(602) - 1, Same: r.below(2) == 0}
	m.Deps = anyDeps(r, m.Id)
	return m
}

func TestWireOfAnyMessage(t *testing.T) {
	spoilt := 0
	for seed := range 4000 {
		r := lcg(seed + 20)
		m := anyValidMsg(&r)
		if !checkShowMsg(t, "valid", m) {
			t.Fatalf("%+v is invalid", m)
		}
		if !checkShowMsg(t, "spoilt", spoilMsg(&r, m)) {
			spoilt++
		}
		s := impl.ShowEMsg(m)
		at, size := r.below(len(s)), r.below(4)
		checkReadMsg(t, s[:at]+someBytes(uint64(r), size)+s[min(len(s), at+size):])
		checkReadMsg(t, s[:at]+s[min(len(s), at+size):])
		other := impl.ShowEMsg(anyValidMsg(&r))
		checkReadMsg(t, s[:at]+other[min(len(other), at):])
	}
	if spoilt == 0 {
		t.Error("no message is invalid")
	}
}

func roomyMsg(m impl.EMsg) impl.EMsg {
	m.Cmd, m.Deps = roomyCmd(m.Cmd), withRoom(m.Deps, idOf(9, 9))
	return m
}

func wholeMsg(m impl.EMsg) impl.EMsg {
	m.Cmd, m.Deps = wholeCmd(m.Cmd), slices.Clone(m.Deps[:cap(m.Deps)])
	return m
}

func TestWordFunctionsChangeNoArgument(t *testing.T) {
	all := validMsgs()
	changedMsgs(baseMsgs()[3], func(what string, m impl.EMsg) {
		if !wantMsgOk(m) && len(m.Cmd.Chunks) < 100 {
			all = append(all, m)
		}
	})
	for _, m := range all {
		a, b := roomyMsg(m), roomyMsg(greatMsg())
		before, other := wholeMsg(a), wholeMsg(b)
		s := impl.ShowEMsg(a)
		copied := strings.Clone(s)
		impl.ReadEMsg(s)
		for _, pair := range [][2]impl.EMsg{{a, a}, {a, b}, {b, a}, {a, m}} {
			impl.SameMsg(pair[0], pair[1])
		}
		if !reflect.DeepEqual(wholeMsg(a), before) || !reflect.DeepEqual(wholeMsg(b), other) || s != copied {
			t.Fatalf("%+v has become %+v, or %+v, or %q", m, wholeMsg(a), wholeMsg(b), s)
		}
	}
}

func TestWordFunctionsShareNoMemory(t *testing.T) {
	shared, text := []impl.Id{idOf(0, 6), idOf(1, 1)}, strings.Repeat("s", 4)
	twice := baseMsgs()[2]
	twice.Deps = shared
	twice.Cmd.Set, twice.Cmd.Name, twice.Cmd.Chunks = text, text, []string{idA, idA}
	for _, m := range append(validMsgs(), twice) {
		given := freshMsg(m)
		shown, again := impl.ShowEMsg(given), impl.ShowEMsg(given)
		first, ok := impl.ReadEMsg(shown)
		second, _ := impl.ReadEMsg(shown)
		third, _ := impl.ReadEMsg(again)
		if !ok {
			t.Fatalf("%+v is not read", m)
		}
		var parts nodeParts
		for _, x := range []impl.EMsg{given, first, second, third} {
			parts.addMsgs([]impl.EMsg{x})
		}
		parts.texts = append(parts.texts, shown, again)
		parts.apart(t, "ReadEMsg")
		for i := range first.Deps {
			first.Deps[i] = idOf(8, 8)
		}
		for i := range first.Cmd.Chunks {
			first.Cmd.Chunks[i] = "changed-"
		}
		first.Deps, first.Cmd.Chunks = append(first.Deps, idOf(7, 7)), append(first.Cmd.Chunks, "more----")
		last, ok := impl.ReadEMsg(shown)
		if !ok || !equalMsgs(last, m) || !equalMsgs(second, m) || !equalMsgs(third, m) || !equalMsgs(given, m) {
			t.Fatalf("%+v: a change of a result changes %+v, %+v, %+v or %+v", m, last, second, third, given)
		}
	}
	// The lists and texts of an argument that are in two places are read as two.
	var parts nodeParts
	m, _ := impl.ReadEMsg(impl.ShowEMsg(twice))
	parts.addMsgs([]impl.EMsg{m})
	parts.ids, parts.texts = append(parts.ids, shared), append(parts.texts, text)
	parts.apart(t, "shared")
}

func TestWordFunctionsKeepNoState(t *testing.T) {
	all := append(validMsgs(), impl.EMsg{}, impl.EMsg{Kind: 8}, impl.EMsg{Kind: 1, To: 1, Id: idOf(0, 1), Deps: []impl.Id{idOf(0, 1)}})
	for _, m := range all {
		shown := impl.ShowEMsg(m)
		read, ok := impl.ReadEMsg(shown)
		for _, other := range all {
			s := impl.ShowEMsg(other)
			impl.ReadEMsg(s)
			impl.ReadEMsg(s + "x")
			impl.ReadEMsg(s[:len(s)/2])
			impl.SameMsg(m, other)
		}
		again, still := impl.ReadEMsg(shown)
		if impl.ShowEMsg(m) != shown || still != ok || !equalMsgs(read, again) || ok != wantMsgOk(m) {
			t.Errorf("%+v has another result later", m)
		}
	}
}
