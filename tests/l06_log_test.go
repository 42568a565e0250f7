package tests

import (
	"math"
	"math/big"
	"slices"
	"strings"
	"testing"

	"loop.example/g00954/impl"
)

// plainLog is a log as the chapter describes it: lists of records, from which
// texts and numbers follow.
type plainLog struct {
	first int
	segs  [][]string
	mark  int
}

func newPlainLog() plainLog {
	return plainLog{1, [][]string{nil}, 0}
}

func plainText(records []string) string {
	all := ""
	for _, s := range records {
		all += wantFrame(s)
	}
	return all
}

func (p plainLog) copied() plainLog {
	var segs [][]string
	for _, g := range p.segs {
		segs = append(segs, slices.Clone(g))
	}
	return plainLog{p.first, segs, p.mark}
}

// lastOf is the number of the last record of segment i.
func (p plainLog) lastOf(i int) int {
	return p.first + len(slices.Concat(p.segs[:i+1]...)) - 1
}

func (p plainLog) next() int {
	return p.lastOf(len(p.segs)-1) + 1
}

func (p plainLog) log() impl.Log {
	var l impl.Log
	at := p.first
	for _, g := range p.segs {
		l.Segs = append(l.Segs, impl.Seg{First: at, Text: plainText(g)})
		at += len(g)
	}
	l.Next, l.Mark = at, p.mark
	return l
}

func (p plainLog) read() []string {
	var out []string
	for i, s := range slices.Concat(p.segs...) {
		if p.first+i > p.mark {
			out = append(out, s)
		}
	}
	return out
}

func (p plainLog) withoutCovered() plainLog {
	out := plainLog{mark: p.mark}
	for i, g := range p.segs {
		if p.lastOf(i) > p.mark || i == len(p.segs)-1 {
			if out.segs == nil {
				out.first = p.lastOf(i) - len(g) + 1
			}
			out.segs = append(out.segs, g)
		}
	}
	return out
}

func (p plainLog) add(s string) (plainLog, bool) {
	out := p.copied()
	at := len(out.segs) - 1
	longer := append(slices.Clone(out.segs[at]), s)
	if len(longer) == 1 || len(plainText(longer)) <= 60 {
		out.segs[at] = longer
	} else {
		out.segs = append(out.segs, []string{s})
		out = out.withoutCovered()
	}
	if len(s) > 200 || len(out.segs) > 6 || out.next() > 1000 {
		return p, false
	}
	return out, true
}

func (p plainLog) markAt(n int) (plainLog, bool) {
	if n < p.mark || n >= p.next() {
		return p, false
	}
	out := p.copied()
	out.mark = n
	return out.withoutCovered(), true
}

func (p plainLog) cut(keep int) plainLog {
	out := p.copied()
	last := &out.segs[len(out.segs)-1]
	for len(*last) > 0 && len(plainText(*last)) > keep {
		*last = (*last)[:len(*last)-1]
	}
	out.mark = min(out.mark, out.next()-1)
	return out
}

// wantLogOk goes through the conditions in the order of the chapter, with
// numbers that do not overflow.
func wantLogOk(l impl.Log) bool {
	if len(l.Segs) < 1 || len(l.Segs) > 6 || l.Segs[0].First < 1 {
		return false
	}
	next := big.NewInt(int64(l.Segs[0].First))
	for i, g := range l.Segs {
		contents, end := wantUnframe(g.Text)
		if end != len(g.Text) || len(g.Text) > 60 && len(contents) != 1 {
			return false
		}
		if big.NewInt(int64(g.First)).Cmp(next) != 0 {
			return false
		}
		next.Add(next, big.NewInt(int64(len(contents))))
		before := i < len(l.Segs)-1
		if before && (len(contents) == 0 || next.Cmp(big.NewInt(int64(l.Mark)+1)) <= 0) {
			return false
		}
	}
	return next.Cmp(big.NewInt(int64(l.Next))) == 0 && l.Next <= 1000 && 0 <= l.Mark && l.Mark < l.Next
}

func equalLogs(a impl.Log, b impl.Log) bool {
	return slices.Equal(a.Segs, b.Segs) && a.Next == b.Next && a.Mark == b.Mark
}

func copyOfLog(l impl.Log) impl.Log {
	l.Segs = slices.Clone(l.Segs)
	return l
}

func wantLog(t *testing.T, what string, got impl.Log, ok bool, want impl.Log, wantOk bool) {
	t.Helper()
	if !equalLogs(got, want) || ok != wantOk {
		t.Fatalf("%s: %#v, %v, want %#v, %v", what, got, ok, want, wantOk)
	}
}

// checkLogOk also tells that every function answers an invalid log as such.
func checkLogOk(t *testing.T, what string, l impl.Log) {
	t.Helper()
	want := wantLogOk(l)
	if got := impl.LogOk(l); got != want {
		t.Fatalf("%s: LogOk(%#v) = %v", what, l, got)
	}
	if want {
		return
	}
	for _, s := range []string{"", "a", strings.Repeat("a", 200), strings.Repeat("a", 201)} {
		got, ok := impl.LogAdd(l, s)
		wantLog(t, what+": LogAdd", got, ok, impl.Log{}, false)
	}
	for _, n := range []int{math.MinInt, -1, 0, 1, l.Mark, l.Next - 1, l.Next, math.MaxInt} {
		got, ok := impl.LogMark(l, n)
		wantLog(t, what+": LogMark", got, ok, impl.Log{}, false)
		got, ok = impl.LogCut(l, n)
		wantLog(t, what+": LogCut", got, ok, impl.Log{}, false)
	}
	if got := impl.LogRead(l); got != nil {
		t.Fatalf("%s: LogRead(%#v) = %.200q", what, l, got)
	}
}

// fits tells that l is the log that p describes, and is read as such.
func (p plainLog) fits(t *testing.T, what string, l impl.Log) {
	t.Helper()
	if want := p.log(); !equalLogs(l, want) {
		t.Fatalf("%s: %#v, want %#v", what, l, want)
	}
	if !wantLogOk(l) {
		t.Fatalf("%s: the test expects the invalid log %#v", what, l)
	}
	if !impl.LogOk(l) {
		t.Fatalf("%s: LogOk(%#v) = false", what, l)
	}
	if got, want := impl.LogRead(l), p.read(); !slices.Equal(got, want) {
		t.Fatalf("%s: LogRead(%#v) = %.200q, want %.200q", what, l, got, want)
	}
}

// tryLog makes one call and holds it against the plain log.
func tryLog(t *testing.T, p plainLog, call func(impl.Log) (impl.Log, bool), want plainLog, wantOk bool) plainLog {
	t.Helper()
	l := p.log()
	got, ok := call(l)
	wantLog(t, "result", got, ok, want.log(), wantOk)
	wantLog(t, "argument", l, true, p.log(), true)
	want.fits(t, "result", got)
	return want
}

func tryAdd(t *testing.T, p plainLog, s string) plainLog {
	t.Helper()
	want, ok := p.add(s)
	return tryLog(t, p, func(l impl.Log) (impl.Log, bool) { return impl.LogAdd(l, s) }, want, ok)
}

func tryMark(t *testing.T, p plainLog, n int) plainLog {
	t.Helper()
	want, ok := p.markAt(n)
	return tryLog(t, p, func(l impl.Log) (impl.Log, bool) { return impl.LogMark(l, n) }, want, ok)
}

func tryCut(t *testing.T, p plainLog, keep int) plainLog {
	t.Helper()
	return tryLog(t, p, func(l impl.Log) (impl.Log, bool) { return impl.LogCut(l, keep) }, p.cut(keep), true)
}

// numbered are count records that differ, each of size bytes.
func numbered(from int, count int, size int) []string {
	var out []string
	for i := range count {
		out = append(out, someBytes(uint64(from+i), size))
	}
	return out
}

// plainLogs are valid logs of every shape: frames of 6 bytes contents have 11
// bytes, so that five of them fit into a segment, and four of 10 fill it.
func plainLogs() []plainLog {
	five := func(from int) []string { return numbered(from, 5, 6) }
	long := func(from int) []string { return numbered(from, 1, 200) }
	return []plainLog{
		newPlainLog(),
		{1, [][]string{{"a"}}, 0},
		{1, [][]string{{"a"}}, 1},
		{1, [][]string{{""}}, 0},
		{1, [][]string{make([]string, 12)}, 0},
		{1, [][]string{make([]string, 12)}, 11},
		{1, [][]string{make([]string, 12)}, 12},
		{1, [][]string{make([]string, 12), nil}, 0},
		{1, [][]string{make([]string, 12), make([]string, 3)}, 11},
		{1, [][]string{numbered(1, 4, 10)}, 3},
		{1, [][]string{long(1)}, 0},
		{1, [][]string{long(1)}, 1},
		{1, [][]string{long(1), nil}, 0},
		{1, [][]string{long(1), long(2)}, 0},
		{1, [][]string{long(1), {"a", "b"}, long(2), five(3)}, 0},
		{1, [][]string{{"a", "b"}, long(2), five(3)}, 1},
		{1, [][]string{five(1), five(6), {"x", "y"}}, 0},
		{1, [][]string{five(1), five(6), {"x", "y"}}, 4},
		{6, [][]string{five(6), {"x", "y"}}, 5},
		{6, [][]string{five(6), {"x", "y"}}, 0},
		{6, [][]string{five(6), {"x", "y"}}, 9},
		{6, [][]string{nil}, 0},
		{6, [][]string{nil}, 4},
		{6, [][]string{nil}, 5},
		{11, [][]string{{"x", "y"}}, 10},
		{11, [][]string{{"x", "y"}}, 11},
		{11, [][]string{{"x", "y"}}, 12},
		{1, [][]string{{"a"}, {"b"}, {"c"}, {"d"}, {"e"}, {"f"}}, 0},
		{1, [][]string{five(1), five(6), five(11), five(16), five(21), nil}, 2},
		{1, [][]string{five(1), five(6), five(11), five(16), five(21), five(26)}, 0},
		{1, [][]string{five(1), five(6), five(11), five(16), five(21), five(26)}, 4},
		{970, [][]string{five(970), five(975), five(980), five(985), five(990), five(995)}, 970},
		{970, [][]string{five(970), five(975), five(980), five(985), five(990), {"a", "b", "c", "d"}}, 970},
		{999, [][]string{{"a"}}, 998},
		{999, [][]string{{"a"}}, 999},
		{1000, [][]string{nil}, 0},
		{1000, [][]string{nil}, 999},
	}
}

func bigNumbers() []int {
	return []int{
		math.MinInt, math.MinInt + 1, math.MinInt + 2, math.MinInt32, -1000, -2, -1, 0, 1, 2, 999, 1000, 1001, 1002,
		math.MaxInt32, math.MaxUint32, math.MaxUint32 + 2, math.MaxInt - 6, math.MaxInt - 1, math.MaxInt,
	}
}

func TestLogNew(t *testing.T) {
	if impl.MaxSegs != 6 || impl.SegSize != 60 {
		t.Errorf("MaxSegs = %d, SegSize = %d", impl.MaxSegs, impl.SegSize)
	}
	l := impl.LogNew()
	want := impl.Log{Segs: []impl.Seg{{First: 1, Text: ""}}, Next: 1, Mark: 0}
	wantLog(t, "LogNew", l, true, want, true)
	newPlainLog().fits(t, "LogNew", l)
	l.Segs[0].First = 7
	wantLog(t, "second LogNew", impl.LogNew(), true, want, true)
	checkLogOk(t, "zero", impl.Log{})
	checkLogOk(t, "zero with an empty list", impl.Log{Segs: []impl.Seg{}})
	checkLogOk(t, "zero with a segment", impl.Log{Segs: []impl.Seg{{}}})
	checkLogOk(t, "new without a segment", impl.Log{Next: 1})
	if impl.LogOk(impl.Log{}) {
		t.Error("the zero Log is valid")
	}
}

func TestLogsThatAreValid(t *testing.T) {
	for _, p := range plainLogs() {
		p.fits(t, "given", p.log())
	}
}

func TestLogOkNumberOfSegments(t *testing.T) {
	for count := range 14 {
		p := plainLog{first: 1}
		for i := range count {
			p.segs = append(p.segs, numbered(i, 1, 3))
		}
		l := impl.Log{Next: 1}
		if count > 0 {
			l = p.log()
		}
		if got := impl.LogOk(l); got != (count >= 1 && count <= impl.MaxSegs) {
			t.Errorf("%d segments: %v", count, got)
		}
		checkLogOk(t, "segments", l)
	}
}

func TestLogOkSizeOfASegment(t *testing.T) {
	for _, c := range []struct {
		records []string
		size    int
		want    bool
	}{
		{nil, 0, true},
		{[]string{""}, 5, true},
		{make([]string, 12), 60, true},
		{make([]string, 13), 65, false},
		{append(make([]string, 11), "a"), 61, false},
		{append(make([]string, 10), "abcde"), 60, true},
		{append(make([]string, 10), "abcdef"), 61, false},
		{numbered(1, 4, 10), 60, true},
		{append(numbered(1, 3, 10), someBytes(4, 11)), 61, false},
		{[]string{someBytes(1, 50), ""}, 60, true},
		{[]string{someBytes(1, 51), ""}, 61, false},
		{[]string{"", someBytes(1, 51)}, 61, false},
		{[]string{someBytes(1, 55)}, 60, true},
		{[]string{someBytes(1, 56)}, 61, true},
		{[]string{someBytes(1, 56), ""}, 66, false},
		{[]string{"", someBytes(1, 56)}, 66, false},
		{[]string{someBytes(1, 127)}, 132, true},
		{[]string{someBytes(1, 128)}, 134, true},
		{[]string{someBytes(1, 200)}, 206, true},
		{[]string{someBytes(1, 200), ""}, 211, false},
		{[]string{someBytes(1, 200), someBytes(2, 200)}, 412, false},
	} {
		text := plainText(c.records)
		if len(text) != c.size {
			t.Fatalf("%d bytes, want %d", len(text), c.size)
		}
		alone := plainLog{1, [][]string{c.records}, 0}.log()
		first := plainLog{1, [][]string{c.records, {"z"}}, 0}.log()
		last := plainLog{1, [][]string{{"z"}, c.records}, 0}.log()
		if impl.LogOk(alone) != c.want || impl.LogOk(last) != c.want || impl.LogOk(first) != (c.want && c.size > 0) {
			t.Errorf("%d records of %d bytes: %v, %v, %v", len(c.records), c.size,
				impl.LogOk(alone), impl.LogOk(first), impl.LogOk(last))
		}
		for _, l := range []impl.Log{alone, first, last} {
			checkLogOk(t, "size", l)
		}
	}
}

func TestLogOkTextOfFramesOnly(t *testing.T) {
	for _, p := range plainLogs() {
		for i := range p.segs {
			text := p.log().Segs[i].Text
			reject := func(what string, changed string) {
				l := p.log()
				l.Segs[i].Text = changed
				if impl.LogOk(l) {
					t.Fatalf("%s: %#v is valid", what, l)
				}
				checkLogOk(t, what, l)
			}
			for _, other := range notFrames() {
				reject("bytes behind the frames", text+other)
				reject("bytes before the frames", other+text)
			}
			for cut := range len(text) {
				reject("torn", text[:cut])
				reject("torn at the front", text[cut+1:])
			}
			for at := range len(text) {
				reject("changed", flipBit(text, at, at%8))
			}
			// Their numbers cover a frame that is there, but torn or changed.
			for _, f := range []string{impl.Frame("ab"), impl.Frame(""), impl.Frame(strings.Repeat("z", 150))} {
				reject("frame too much", text+f)
				reject("torn frame behind", text+f[:len(f)-1])
			}
		}
	}
	// A torn frame is not counted either.
	f := impl.Frame("ab")
	for _, text := range []string{f[:len(f)-1], f + f[:len(f)-1], f + "x", "x", flipBit(f, 0, 0), f + flipBit(f, 6, 3)} {
		for next := 1; next <= 3; next++ {
			l := impl.Log{Segs: []impl.Seg{{First: 1, Text: text}}, Next: next}
			if impl.LogOk(l) {
				t.Errorf("%#v is valid", l)
			}
			checkLogOk(t, "torn", l)
		}
	}
}

func TestLogOkFirst(t *testing.T) {
	for _, c := range []struct {
		first int
		want  bool
	}{{-1, false}, {0, false}, {1, true}, {2, true}, {998, true}, {999, false}, {1000, false}} {
		p := plainLog{c.first, [][]string{{"a"}, {"b"}}, 0}
		if got := impl.LogOk(p.log()); got != c.want {
			t.Errorf("First %d: %v", c.first, got)
		}
		checkLogOk(t, "First", p.log())
	}
	for _, p := range plainLogs() {
		for i, g := range p.log().Segs {
			for _, first := range append(bigNumbers(), g.First-1, g.First+1, -g.First, p.next(), p.mark) {
				l := p.log()
				l.Segs[i].First = first
				if impl.LogOk(l) != (first == g.First) {
					t.Fatalf("First %d of segment %d: LogOk(%#v) = %v", first, i, l, impl.LogOk(l))
				}
				checkLogOk(t, "First", l)
			}
		}
	}
}

// TestLogOkNumbersThatOverflow moves all numbers at once: they fit each other,
// but for the limits.
func TestLogOkNumbersThatOverflow(t *testing.T) {
	for _, p := range plainLogs() {
		for _, by := range append(bigNumbers(), math.MaxInt-p.first, math.MaxInt-p.next(), math.MinInt-p.next(), -p.first, 1-p.first, 1000-p.next(), 1001-p.next()) {
			l := p.log()
			l.Next += by
			for i := range l.Segs {
				l.Segs[i].First += by
			}
			for _, mark := range append(bigNumbers(), p.mark, l.Mark+by, l.Next-1, l.Next, l.Next+1) {
				l.Mark = mark
				checkLogOk(t, "moved", l)
			}
		}
	}
	for _, count := range []int{0, 1, 2, 3} {
		for _, first := range []int{math.MaxInt, math.MaxInt - 1, math.MaxInt - 2} {
			l := plainLog{first, [][]string{make([]string, count)}, 0}.log()
			for _, mark := range []int{0, 1, math.MaxInt - 1, math.MaxInt} {
				l.Mark = mark
				if impl.LogOk(l) {
					t.Errorf("%#v is valid", l)
				}
				checkLogOk(t, "overflow", l)
			}
		}
	}
}

func TestLogOkNext(t *testing.T) {
	for _, p := range plainLogs() {
		for _, next := range append(bigNumbers(), p.next()-1, p.next()+1, p.first, p.mark, p.mark+1, -p.next()) {
			l := p.log()
			l.Next = next
			if impl.LogOk(l) != (next == p.next()) {
				t.Fatalf("Next %d: LogOk(%#v) = %v", next, l, impl.LogOk(l))
			}
			checkLogOk(t, "Next", l)
		}
	}
	for _, count := range []int{0, 1, 2, 12} {
		for next := 990; next <= 1010; next++ {
			l := plainLog{next - count, [][]string{make([]string, count)}, 0}.log()
			if got := impl.LogOk(l); got != (next <= impl.MaxNo) {
				t.Errorf("%d records before Next %d: %v", count, next, got)
			}
			checkLogOk(t, "Next", l)
		}
	}
}

func TestLogOkMark(t *testing.T) {
	for _, p := range plainLogs() {
		top := p.next() - 1
		for before := range len(p.segs) - 1 {
			top = min(top, p.lastOf(before)-1)
		}
		for _, mark := range append(bigNumbers(), p.first-1, p.first, top-1, top, top+1, p.next()-1, p.next(), p.next()+1) {
			l := p.log()
			l.Mark = mark
			if impl.LogOk(l) != (mark >= 0 && mark <= top) {
				t.Fatalf("Mark %d: LogOk(%#v) = %v", mark, l, impl.LogOk(l))
			}
			checkLogOk(t, "Mark", l)
		}
	}
	for mark, want := range map[int]bool{-1: false, 0: true, 1: true, 2: true, 3: true, 4: false} {
		l := plainLog{1, [][]string{{"a", "b", "c"}}, mark}.log()
		if impl.LogOk(l) != want {
			t.Errorf("Mark %d of Next 4: %v", mark, !want)
		}
	}
	// Every segment but the last one has a record greater than Mark.
	for mark, want := range map[int]bool{0: true, 1: true, 2: false, 3: false, 4: false} {
		l := plainLog{1, [][]string{{"a", "b"}, {"c", "d"}}, mark}.log()
		if impl.LogOk(l) != want {
			t.Errorf("Mark %d behind a segment of two records: %v", mark, !want)
		}
		checkLogOk(t, "Mark", l)
	}
}

func TestLogOkEmptySegments(t *testing.T) {
	full := [][]string{{"a"}, {"b", "c"}, {"d"}, {"e"}, {"f"}}
	for count := range len(full) + 1 {
		for at := range count + 1 {
			p := plainLog{1, slices.Insert(slices.Clone(full[:count]), at, []string(nil)), 0}
			if got := impl.LogOk(p.log()); got != (at == count) {
				t.Errorf("empty segment %d of %d: %v", at, count+1, got)
			}
			checkLogOk(t, "empty segment", p.log())
		}
	}
	for _, segs := range [][][]string{{nil, nil}, {{"a"}, nil, nil}, {nil, {"a"}, nil}, {nil, nil, nil, nil, nil, nil}} {
		for _, first := range []int{1, 2, 500} {
			p := plainLog{first, segs, 0}
			if impl.LogOk(p.log()) {
				t.Errorf("%#v is valid", p.log())
			}
			checkLogOk(t, "empty segments", p.log())
		}
	}
}

func TestLogOkOtherSegments(t *testing.T) {
	for _, p := range plainLogs() {
		l := p.log()
		for i := range l.Segs {
			less, twice := copyOfLog(l), copyOfLog(l)
			less.Segs = slices.Delete(less.Segs, i, i+1)
			twice.Segs = slices.Insert(twice.Segs, i, l.Segs[i])
			checkLogOk(t, "segment less", less)
			checkLogOk(t, "segment twice", twice)
			for j := range i {
				turned := copyOfLog(l)
				turned.Segs[i], turned.Segs[j] = l.Segs[j], l.Segs[i]
				checkLogOk(t, "segments turned", turned)
				texts := copyOfLog(l)
				texts.Segs[i].Text, texts.Segs[j].Text = l.Segs[j].Text, l.Segs[i].Text
				checkLogOk(t, "texts turned", texts)
			}
		}
	}
	many := impl.Log{Segs: make([]impl.Seg, 1<<16), Next: 1}
	checkLogOk(t, "many segments", many)
	long := strings.Repeat(impl.Frame(""), 1<<16)
	for _, next := range []int{1, 2, 1000, 1<<16 + 1} {
		if impl.LogOk(impl.Log{Segs: []impl.Seg{{First: 1, Text: long}}, Next: next}) {
			t.Error("a long segment of many frames is valid")
		}
	}
}

func TestLogAddFillsASegment(t *testing.T) {
	for size := range impl.SegSize + 1 {
		for _, p := range []plainLog{
			{1, [][]string{{""}}, 0},
			{1, [][]string{make([]string, 11)}, 3},
			{1, [][]string{{"abc"}, {"defghi", ""}}, 0},
			{7, [][]string{numbered(7, 4, 10)}, 0},
			{7, [][]string{numbered(7, 5, 6)}, 8},
			{7, [][]string{numbered(7, 1, 55)}, 0},
			{7, [][]string{numbered(7, 1, 54)}, 0},
			{7, [][]string{numbered(7, 1, 56)}, 0},
		} {
			s := someBytes(uint64(size), size)
			got := tryAdd(t, p, s)
			fits := len(plainText(p.segs[len(p.segs)-1]))+len(wantFrame(s)) <= 60
			if fits != (len(got.segs) == len(p.segs)) {
				t.Errorf("%d bytes into %v: %v", size, p, got)
			}
		}
	}
	// 45 bytes, and a frame of 15 or 16 bytes.
	p := plainLog{1, [][]string{numbered(1, 3, 10)}, 0}
	full, _ := impl.LogAdd(p.log(), strings.Repeat("a", 10))
	more, _ := impl.LogAdd(p.log(), strings.Repeat("a", 11))
	if len(full.Segs) != 1 || len(full.Segs[0].Text) != impl.SegSize {
		t.Errorf("full: %#v", full)
	}
	if len(more.Segs) != 2 || more.Segs[1].First != 4 || len(more.Segs[1].Text) != 16 || len(more.Segs[0].Text) != 45 {
		t.Errorf("one byte more than full: %#v", more)
	}
	again, _ := impl.LogAdd(full, "")
	if len(again.Segs) != 2 || again.Segs[1].First != 5 || again.Next != 6 {
		t.Errorf("behind a full segment: %#v", again)
	}
}

func TestLogAddOfARecordLongerThanASegment(t *testing.T) {
	for _, size := range []int{55, 56, 57, 60, 127, 128, 150, 199, 200} {
		s := someBytes(uint64(size), size)
		for _, p := range []plainLog{
			newPlainLog(),
			{6, [][]string{nil}, 5},
			{1, [][]string{{"a"}, nil}, 0},
			{1, [][]string{{"a"}, {"b"}, {"c"}, {"d"}, {"e"}, nil}, 0},
		} {
			got := tryAdd(t, p, s)
			if len(got.segs) != len(p.segs) || got.next() != p.next()+1 {
				t.Errorf("%d bytes into an empty segment: %#v", size, got.log())
			}
			if size > 55 && len(p.segs) < 6 {
				next := tryAdd(t, got, "")
				if len(next.segs) != len(got.segs)+1 {
					t.Errorf("behind a record of %d bytes: %#v", size, next.log())
				}
				tryAdd(t, next, s)
			}
		}
		for _, p := range []plainLog{{1, [][]string{{""}}, 0}, {1, [][]string{{"a"}, {"b"}}, 0}} {
			got := tryAdd(t, p, s)
			if len(got.segs) != len(p.segs)+1 {
				t.Errorf("%d bytes into another segment: %#v", size, got.log())
			}
		}
	}
}

func TestLogAddOfEmptyRecords(t *testing.T) {
	p := newPlainLog()
	for i := range 100 {
		p = tryAdd(t, p, "")
		if want := min(i+1, 72); p.next() != want+1 || len(p.read()) != want {
			t.Fatalf("%d empty records: Next %d", i+1, p.next())
		}
	}
	if l := p.log(); len(l.Segs) != 6 || l.Segs[5].First != 61 || len(l.Segs[5].Text) != 60 {
		t.Errorf("six full segments: %#v", l)
	}
}

func TestLogAddOfARecordThatIsTooLong(t *testing.T) {
	for _, p := range plainLogs() {
		for _, size := range []int{201, 202, 256, 300, 1 << 14, 1 << 20} {
			s := strings.Repeat("a", size)
			got, ok := impl.LogAdd(p.log(), s)
			wantLog(t, "too long", got, ok, p.log(), false)
			tryAdd(t, p, s)
		}
	}
}

func TestLogAddAtTheMostSegments(t *testing.T) {
	p := newPlainLog()
	for i := range 30 {
		p = tryAdd(t, p, someBytes(uint64(i), 6))
	}
	if len(p.segs) != 6 || p.next() != 31 {
		t.Fatalf("30 records of 11 bytes: %#v", p.log())
	}
	// Five bytes are left.
	for size := range 201 {
		got, ok := impl.LogAdd(p.log(), strings.Repeat("a", size))
		if ok != (size == 0) || !ok && !equalLogs(got, p.log()) {
			t.Fatalf("%d bytes behind six full segments: %v, %v", size, got, ok)
		}
	}
	for mark := 0; mark <= 30; mark++ {
		marked := tryMark(t, p, mark)
		l, ok := impl.LogAdd(marked.log(), "abcdef")
		if ok != (mark >= 5) {
			t.Errorf("mark %d: %v", mark, ok)
		}
		if ok && (l.Next != 32 || l.Segs[len(l.Segs)-1].First != 31 || len(l.Segs) != max(7-mark/5, 1)) {
			t.Errorf("mark %d: %#v", mark, l)
		}
		tryAdd(t, marked, "abcdef")
	}
	// The last segment takes a record also if there are six.
	cut := tryCut(t, p, 0)
	for _, size := range []int{0, 55, 56, 200} {
		got := tryAdd(t, cut, strings.Repeat("a", size))
		if got.next() != 27 || len(got.segs) != 6 {
			t.Errorf("%d bytes into an empty sixth segment: %#v", size, got.log())
		}
	}
	cut = tryCut(t, p, 54)
	if got := tryAdd(t, cut, "abcdefghijk"); got.next() != 31 {
		t.Errorf("into the rest of the sixth segment: %#v", got.log())
	}
	if got := tryAdd(t, cut, "abcdefghijkl"); got.next() != 30 {
		t.Errorf("a byte more than the rest of the sixth segment: %#v", got.log())
	}
}

func TestLogAddRemovesACoveredSegment(t *testing.T) {
	five := numbered(1, 5, 6)
	for mark := 0; mark <= 5; mark++ {
		l := plainLog{1, [][]string{five}, mark}.log()
		got, ok := impl.LogAdd(l, "behind")
		if !ok || got.Next != 7 || got.Mark != mark || (len(got.Segs) == 1) != (mark == 5) {
			t.Errorf("mark %d: %v, %v", mark, got, ok)
		}
		if last := got.Segs[len(got.Segs)-1]; last.First != 6 || last.Text != impl.Frame("behind") {
			t.Errorf("mark %d: %v", mark, got)
		}
		tryAdd(t, plainLog{1, [][]string{five}, mark}, "behind")
		// A record that fits removes nothing.
		small := tryAdd(t, plainLog{1, [][]string{five}, mark}, "")
		if len(small.segs) != 1 || small.first != 1 || small.next() != 7 {
			t.Errorf("mark %d, empty record: %#v", mark, small.log())
		}
	}
}

func TestLogAddAtTheLastNumber(t *testing.T) {
	for next := 990; next <= 1000; next++ {
		for _, p := range []plainLog{
			{next, [][]string{nil}, 0},
			{next - 1, [][]string{{"a"}}, next - 2},
			{next - 1, [][]string{{"a"}}, next - 1},
			{next - 12, [][]string{make([]string, 12)}, 0},
			{next - 12, [][]string{make([]string, 12)}, next - 1},
			{next - 6, [][]string{{"a"}, {"b"}, {"c"}, {"d"}, {"e"}, {"f"}}, 0},
		} {
			for _, s := range []string{"", "a", strings.Repeat("a", 200)} {
				got, ok := impl.LogAdd(p.log(), s)
				if next == 1000 {
					wantLog(t, "at MaxNo", got, ok, p.log(), false)
				}
				tryAdd(t, p, s)
			}
		}
	}
	p := plainLog{989, [][]string{nil}, 988}
	for range 20 {
		p = tryAdd(t, p, "a")
	}
	if p.next() != impl.MaxNo || len(p.read()) != 11 {
		t.Errorf("the last record is %d", p.next()-1)
	}
	p = tryMark(t, p, 999)
	tryAdd(t, p, "a")
	if p = tryCut(t, p, 0); p.next() == impl.MaxNo {
		t.Error("nothing was lost")
	}
	tryAdd(t, p, "a")
}

// threeSegs has records 1 to 5, 6 to 10, and 11 and 12.
func threeSegs(t *testing.T) plainLog {
	p := newPlainLog()
	for i := range 12 {
		p = tryAdd(t, p, string(rune('a'+i))+"-----")
	}
	return p
}

func TestLogMarkAtTheEndOfASegment(t *testing.T) {
	p := threeSegs(t)
	for n, first := range []int{1, 1, 1, 1, 1, 6, 6, 6, 6, 6, 11, 11, 11} {
		got, ok := impl.LogMark(p.log(), n)
		if !ok || got.Mark != n || got.Next != 13 || got.Segs[0].First != first {
			t.Errorf("mark %d: %v, %v", n, got, ok)
		}
		if l := impl.LogRead(got); len(l) != 12-n || len(l) > 0 && l[0][0] != byte('a'+n) {
			t.Errorf("mark %d: %q", n, l)
		}
		marked := tryMark(t, p, n)
		for _, s := range []string{"", "behind", strings.Repeat("z", 38), strings.Repeat("z", 39), strings.Repeat("z", 200)} {
			more := tryAdd(t, marked, s)
			if l := more.read(); l[len(l)-1] != s || len(l) != 13-n {
				t.Errorf("mark %d and %d bytes: %q", n, len(s), l)
			}
			// The mark can move on to the record that was added.
			if all := tryMark(t, more, 13); len(all.segs) != 1 || len(all.read()) != 0 {
				t.Errorf("mark %d, %d bytes and mark 13: %#v", n, len(s), all.log())
			}
		}
	}
	// A mark at the last record of the last segment leaves that segment, until
	// a record needs another one.
	p = tryMark(t, p, 12)
	if len(p.segs) != 1 || len(p.segs[0]) != 2 {
		t.Errorf("mark 12: %#v", p.log())
	}
	p = tryAdd(t, tryAdd(t, p, "behind"), strings.Repeat("z", 200))
	if l := p.log(); len(l.Segs) != 2 || l.Segs[0].First != 11 || l.Segs[1].First != 14 {
		t.Errorf("behind mark 12: %#v", l)
	}
	p = tryMark(t, p, 13)
	if l := p.log(); len(l.Segs) != 1 || l.Segs[0].First != 14 || len(p.read()) != 1 {
		t.Errorf("mark 13: %#v", l)
	}
}

func TestLogMarkInSteps(t *testing.T) {
	for _, p := range plainLogs() {
		step := p
		for n := p.mark; n < p.next(); n++ {
			once := tryMark(t, p, n)
			again := tryMark(t, once, n)
			step = tryMark(t, step, n)
			if !equalLogs(once.log(), again.log()) || !equalLogs(once.log(), step.log()) {
				t.Fatalf("mark %d of %#v: %#v, %#v, %#v", n, p.log(), once.log(), again.log(), step.log())
			}
			if n > p.mark {
				tryMark(t, once, n-1)
			}
			if n > p.mark+1 {
				break
			}
		}
		for n := max(p.mark, p.next()-3); n < p.next(); n++ {
			tryMark(t, p, n)
		}
	}
}

func TestLogMarkOutOfRange(t *testing.T) {
	for _, p := range plainLogs() {
		for _, n := range append(bigNumbers(), p.mark-1, p.mark, p.mark+1, p.next()-1, p.next(), p.next()+1) {
			got, ok := impl.LogMark(p.log(), n)
			if ok != (n >= p.mark && n < p.next()) {
				t.Fatalf("LogMark(%#v, %d): %v", p.log(), n, ok)
			}
			if !ok {
				wantLog(t, "LogMark out of range", got, ok, p.log(), false)
			}
			tryMark(t, p, n)
		}
	}
}

func TestLogMarkOverSeveralSegments(t *testing.T) {
	p := newPlainLog()
	for i := range 30 {
		p = tryAdd(t, p, someBytes(uint64(i), 6))
	}
	for from := 0; from <= 30; from++ {
		marked := tryMark(t, p, from)
		for n := from; n <= 30; n++ {
			got := tryMark(t, marked, n)
			if want := min(1+n/5*5, 26); got.first != want || len(got.segs) != (31-want+4)/5 {
				t.Fatalf("marks %d and %d: %#v", from, n, got.log())
			}
		}
	}
	// The last segment may be empty.
	cut := tryCut(t, p, 0)
	for n := 0; n <= 25; n++ {
		got := tryMark(t, cut, n)
		if want := 1 + n/5*5; got.first != want {
			t.Fatalf("mark %d before an empty segment: %#v", n, got.log())
		}
		tryAdd(t, got, "abcdef")
		tryAdd(t, got, strings.Repeat("z", 200))
	}
	// Segments of one record each.
	for n := 0; n <= 6; n++ {
		one := plainLog{1, [][]string{{"a"}, {"b"}, {"c"}, {"d"}, {"e"}, {"f"}}, 0}
		if got := tryMark(t, one, n); len(got.segs) != max(6-n, 1) {
			t.Errorf("mark %d: %#v", n, got.log())
		}
	}
}

func TestLogReadBehindMarks(t *testing.T) {
	for _, p := range plainLogs() {
		all := slices.Concat(p.segs...)
		for mark := range p.next() {
			l := p.log()
			l.Mark = mark
			if !wantLogOk(l) {
				continue
			}
			want := all[min(max(mark+1-p.first, 0), len(all)):]
			if got := impl.LogRead(l); !slices.Equal(got, want) {
				t.Fatalf("LogRead(%#v) = %.200q", l, got)
			}
		}
	}
	for _, s := range []string{"", "a", "\x00", impl.Frame("inner"), "\xff\xfe", someBytes(1, 200)} {
		l, ok := impl.LogAdd(impl.LogNew(), s)
		if got := impl.LogRead(l); !ok || !slices.Equal(got, []string{s}) {
			t.Errorf("LogRead of %.40q: %.40q", s, got)
		}
	}
}

func TestLogCutEverywhere(t *testing.T) {
	for _, p := range plainLogs() {
		last := p.segs[len(p.segs)-1]
		size := len(plainText(last))
		for keep := -3; keep <= size+3; keep++ {
			whole := 0
			for whole < len(last) && len(plainText(last[:whole+1])) <= keep {
				whole++
			}
			next := p.next() - len(last) + whole
			for mark := range p.next() {
				marked := p.copied()
				marked.mark = mark
				if !wantLogOk(marked.log()) || mark > 3 && mark < p.next()-13 {
					continue
				}
				got := tryCut(t, marked, keep)
				if got.next() != next || got.mark != min(mark, next-1) || len(got.segs) != len(p.segs) {
					t.Fatalf("LogCut(%#v, %d): %#v", marked.log(), keep, got.log())
				}
				if got.first != p.first || !slices.Equal(got.segs[len(got.segs)-1], last[:whole]) {
					t.Fatalf("LogCut(%#v, %d): %#v", marked.log(), keep, got.log())
				}
			}
		}
		for _, keep := range []int{math.MinInt, math.MinInt + 1, -1 << 32, -1000, -1} {
			if got := tryCut(t, p, keep); len(got.segs[len(got.segs)-1]) != 0 {
				t.Errorf("LogCut(%#v, %d): %#v", p.log(), keep, got.log())
			}
		}
		for _, keep := range []int{size, size + 1, 1000, 1 << 32, math.MaxInt - 1, math.MaxInt} {
			if got := tryCut(t, p, keep); !equalLogs(got.log(), p.log()) {
				t.Errorf("LogCut(%#v, %d): %#v", p.log(), keep, got.log())
			}
		}
	}
}

func TestLogCutBelowTheMark(t *testing.T) {
	p := threeSegs(t)
	for _, c := range []struct{ mark, keep, next, want int }{
		{12, 22, 13, 12}, {12, 21, 12, 11}, {12, 11, 12, 11}, {12, 10, 11, 10}, {12, 0, 11, 10},
		{11, 21, 12, 11}, {11, 10, 11, 10}, {10, 10, 11, 10}, {10, 21, 12, 10}, {9, 0, 11, 9}, {0, 0, 11, 0},
	} {
		marked := tryMark(t, p, c.mark)
		got, ok := impl.LogCut(marked.log(), c.keep)
		if !ok || got.Next != c.next || got.Mark != c.want {
			t.Errorf("mark %d, cut %d: %v", c.mark, c.keep, got)
		}
		// What is added now has a number of its own, and is read.
		cut := tryCut(t, marked, c.keep)
		more := tryAdd(t, cut, "new")
		if l := more.read(); len(l) != c.next-c.want || l[len(l)-1] != "new" {
			t.Errorf("mark %d, cut %d, add: %q", c.mark, c.keep, l)
		}
	}
	one := plainLog{1, [][]string{{"a"}}, 1}
	if got := tryCut(t, one, 0); !equalLogs(got.log(), impl.LogNew()) {
		t.Errorf("cut of the only record: %#v", got.log())
	}
}

// lcg is a source of numbers that is the same in each run.
type lcg uint64

func (r *lcg) below(n int) int {
	*r = *r*6364136223846793005 + 1442695040888963407
	return int(uint64(*r)>>33) % n
}

// anyStep makes one call, of which about a tenth are rejected.
func anyStep(t *testing.T, r *lcg, p plainLog) plainLog {
	t.Helper()
	switch kind := r.below(12); {
	case kind < 8:
		sizes := []int{0, 1, 3, 6, 10, 20, 50, 55, 56, 128, 200, 201}
		return tryAdd(t, p, someBytes(uint64(*r), sizes[r.below(len(sizes))]))
	case kind < 10:
		return tryMark(t, p, p.mark-1+r.below(p.next()-p.mark+2))
	default:
		size := len(plainText(p.segs[len(p.segs)-1]))
		return tryCut(t, p, r.below(size+4)-2)
	}
}

func TestLogAnySequence(t *testing.T) {
	for seed := range 100 {
		r := lcg(seed)
		p := newPlainLog()
		if seed%5 == 4 {
			p = plainLog{970, [][]string{nil}, 969}
		}
		for range 150 {
			p = anyStep(t, &r, p)
		}
	}
}

// TestLogKeepsWhatWasAdded says the promise with nothing but a list: the
// records by number, of which a cut takes away the last ones.
func TestLogKeepsWhatWasAdded(t *testing.T) {
	for seed := range 200 {
		r := lcg(seed + 1000)
		l := impl.LogNew()
		added := []string{"number 0 is not used"}
		for step := range 200 {
			before := impl.LogRead(l)
			switch kind := r.below(10); {
			case kind < 7:
				s := someBytes(uint64(step), r.below(30))
				more, ok := impl.LogAdd(l, s)
				if ok {
					added = append(added, s)
				}
				l = more
			case kind < 9:
				l, _ = impl.LogMark(l, l.Mark+r.below(4))
			default:
				l, _ = impl.LogCut(l, r.below(80)-5)
				if l.Next > len(added) {
					t.Fatalf("a cut makes Next %d of %d", l.Next, len(added))
				}
				added = added[:l.Next]
				if got := impl.LogRead(l); len(got) > len(before) || !slices.Equal(got, before[:len(got)]) {
					t.Fatalf("LogRead after a cut: %.200q, before: %.200q", got, before)
				}
			}
			if !impl.LogOk(l) || l.Next != len(added) || !slices.Equal(impl.LogRead(l), added[l.Mark+1:]) {
				t.Fatalf("LogRead(%#v) = %.200q, want %.200q", l, impl.LogRead(l), added[l.Mark+1:])
			}
		}
	}
}

func TestLogEverySequence(t *testing.T) {
	acts := []func(p plainLog) plainLog{
		func(p plainLog) plainLog { return tryAdd(t, p, strings.Repeat("a", 25)) },
		func(p plainLog) plainLog { return tryAdd(t, p, strings.Repeat("b", 56)) },
		func(p plainLog) plainLog { return tryMark(t, p, p.mark+1) },
		func(p plainLog) plainLog { return tryMark(t, p, p.next()-1) },
		func(p plainLog) plainLog { return tryCut(t, p, 30) },
		func(p plainLog) plainLog { return tryCut(t, p, 0) },
	}
	var visit func(p plainLog, left int)
	visit = func(p plainLog, left int) {
		if left == 0 {
			return
		}
		for _, act := range acts {
			visit(act(p), left-1)
		}
	}
	visit(newPlainLog(), 6)
	visit(plainLog{990, [][]string{{"a"}, {"b"}, {"c"}, {"d"}, {"e"}, {strings.Repeat("f", 56)}}, 0}, 4)
}

// logCalls are the results of calls of every kind, with the rejected ones.
func logCalls(l impl.Log) []impl.Log {
	var out []impl.Log
	for _, s := range []string{"", "abc", strings.Repeat("a", 200), strings.Repeat("a", 201)} {
		got, _ := impl.LogAdd(l, s)
		out = append(out, got)
	}
	for _, n := range []int{-1, l.Mark - 1, l.Mark, l.Mark + 1, l.Next - 1, l.Next} {
		got, _ := impl.LogMark(l, n)
		out = append(out, got)
	}
	for _, keep := range []int{-1, 0, 5, 20, 60, 1000} {
		got, _ := impl.LogCut(l, keep)
		out = append(out, got)
	}
	return out
}

func TestLogFunctionsChangeNoArgument(t *testing.T) {
	spare := impl.Seg{First: 77, Text: "spare"}
	for _, p := range plainLogs() {
		for _, room := range []int{0, 1, 8} {
			want := p.log()
			all := append(slices.Clone(want.Segs), slices.Repeat([]impl.Seg{spare}, room)...)
			l := impl.Log{Segs: all[:len(want.Segs)], Next: want.Next, Mark: want.Mark}
			logCalls(l)
			impl.LogOk(l)
			impl.LogRead(l)
			if !slices.Equal(all[:len(want.Segs)], want.Segs) {
				t.Errorf("%#v has become %#v", want, l)
			}
			for _, g := range all[len(want.Segs):] {
				if g != spare {
					t.Errorf("%#v: unused capacity has become %#v", want, g)
				}
			}
		}
	}
}

func TestLogFunctionsShareNoMemory(t *testing.T) {
	for _, p := range plainLogs() {
		l := p.log()
		results := append(logCalls(l), logCalls(l)...)
		copies := []impl.Log{}
		for _, r := range results {
			copies = append(copies, copyOfLog(r))
		}
		for i, r := range results {
			for j := range append([]impl.Log{l}, results[:i]...) {
				other := l
				if j > 0 {
					other = results[j-1]
				}
				for _, a := range r.Segs {
					for _, b := range other.Segs {
						if shareBytes(a.Text, b.Text) {
							t.Fatalf("%#v: text of result %d shares memory with %d", l, i, j-1)
						}
					}
				}
			}
		}
		for i := range results {
			for k := range results[i].Segs {
				results[i].Segs[k] = impl.Seg{First: -1, Text: "changed"}
			}
			for j := i + 1; j < len(results); j++ {
				if !equalLogs(results[j], copies[j]) {
					t.Fatalf("%#v: a change of result %d changes %d", l, i, j)
				}
			}
		}
		if !equalLogs(l, p.log()) {
			t.Errorf("a change of the results changes the argument %#v", l)
		}
		readsShareNothing(t, l)
	}
}

func readsShareNothing(t *testing.T, l impl.Log) {
	t.Helper()
	first, second := impl.LogRead(l), impl.LogRead(l)
	for i, a := range first {
		for _, g := range l.Segs {
			if shareBytes(a, g.Text) {
				t.Errorf("record %d shares memory with the log", i)
			}
		}
		for _, b := range append(first[:i:i], second...) {
			if shareBytes(a, b) {
				t.Errorf("record %d shares memory with another one", i)
			}
		}
	}
	want := slices.Clone(second)
	for i := range first {
		first[i] = "changed"
	}
	if !slices.Equal(second, want) {
		t.Error("a change of one list changes another")
	}
}

func TestLogAddKeepsNoPieceOfTheRecord(t *testing.T) {
	for _, size := range []int{1, 10, 56, 200} {
		s := someBytes(5, size)
		for _, p := range plainLogs() {
			l, _ := impl.LogAdd(p.log(), s)
			for _, g := range l.Segs {
				if shareBytes(g.Text, s) {
					t.Fatalf("%d bytes: a segment shares memory with the record", size)
				}
			}
		}
	}
}
