package tests

import (
	"encoding/binary"
	"math"
	"reflect"
	"regexp"
	"slices"
	"strings"
	"testing"
	"unsafe"

	"loop.example/g00954/impl"
)

const (
	idA = "chunk--a"
	idB = "\x00\x01\x02\x03\xfc\xfd\xfe\xff"
)

var cmdKinds = []int{
	impl.CmNoop, impl.CmCreate, impl.CmDelete, impl.CmCommit, impl.CmTag, impl.CmPrune, impl.CmRead, impl.CmList,
}

// validCmds has several commands of each kind, with the least and the greatest
// value of each field.
func validCmds() []impl.Cmd {
	return []impl.Cmd{
		{},
		{Kind: impl.CmCreate, Client: 1, No: 1, Set: "a"},
		{Kind: impl.CmCreate, Client: 9, No: 1000, Set: "zzzzzzzz"},
		{Kind: impl.CmDelete, Client: 2, No: 127, Set: "ab"},
		{Kind: impl.CmCommit, Client: 3, No: 128, Set: "a", Name: "b", Chunks: []string{idA}},
		{Kind: impl.CmCommit, Client: 3, No: 300, Set: "abcdefgh", Name: "stuvwxyz", Chunks: []string{idA, idB, idA, "\xff\xff\xff\xff\xff\xff\xff\xff"}},
		{Kind: impl.CmCommit, Client: 4, No: 5, Set: "b", Name: "b", Chunks: []string{idB, idA}},
		{Kind: impl.CmCommit, Client: 4, No: 6, Set: "b", Name: "c", Chunks: []string{"\x00\x00\x00\x00\x00\x00\x00\x00", idA, idB}},
		{Kind: impl.CmTag, Client: 5, No: 6, Set: "a", Name: "b", Tag: "c"},
		{Kind: impl.CmTag, Client: 5, No: 7, Set: "abcdefgh", Name: "ijklmnop", Tag: "qrstuvwx"},
		{Kind: impl.CmPrune, Client: 6, No: 8, Set: "a"},
		{Kind: impl.CmPrune, Client: 6, No: 9, Set: "ab", N: 1},
		{Kind: impl.CmPrune, Client: 6, No: 10, Set: "b", N: 9},
		{Kind: impl.CmRead, Client: 7, No: 999, Set: "ab"},
		{Kind: impl.CmList, Client: 8, No: 12},
		{Kind: impl.CmList, Client: 9, No: 1000},
	}
}

// invalidCmds has the forms of invalidity that chapter 4 names.
func invalidCmds() []impl.Cmd {
	return []impl.Cmd{
		{Kind: 8},
		{Kind: -1},
		{Kind: 8, Client: 1, No: 1, Set: "a"},
		{Kind: math.MaxInt, Client: 1, No: 1, Set: "a"},
		{Kind: math.MinInt, Client: 1, No: 1, Set: "a"},
		{Client: 1},
		{No: 1},
		{N: 1},
		{Client: 1, No: 1},
		{Client: 1, No: 1, Set: "a"},
		{Set: "a"},
		{Name: "a"},
		{Tag: "a"},
		{Chunks: []string{idA}},
		{Chunks: []string{""}},
		{Kind: impl.CmCreate},
		{Kind: impl.CmCreate, Client: 1, No: 1},
		{Kind: impl.CmCreate, Client: 1, No: 1, Set: "A"},
		{Kind: impl.CmCreate, Client: 0, No: 1, Set: "a"},
		{Kind: impl.CmCreate, Client: 1, No: 0, Set: "a"},
		{Kind: impl.CmCreate, Client: 1, No: 1001, Set: "a"},
		{Kind: impl.CmCreate, Client: 1, No: 1, Set: "abcdefghi"},
		{Kind: impl.CmDelete, Client: 1, No: 1, Set: "a", Name: "b"},
		{Kind: impl.CmDelete, Client: 1, No: 1, Set: "a", Tag: "b"},
		{Kind: impl.CmRead, Client: 10, No: 1, Set: "a"},
		{Kind: impl.CmRead, Client: -1, No: 1, Set: "a"},
		{Kind: impl.CmRead, Client: 1, No: -1, Set: "a"},
		{Kind: impl.CmRead, Client: 1, No: 1, Set: "a", N: 1},
		{Kind: impl.CmRead, Client: 1, No: 1, Set: "a", Chunks: []string{idA}},
		{Kind: impl.CmPrune, Client: 1, No: 1, Set: "a", N: 10},
		{Kind: impl.CmPrune, Client: 1, No: 1, Set: "a", N: -1},
		{Kind: impl.CmCommit, Client: 1, No: 1, Set: "a", Name: "b"},
		{Kind: impl.CmCommit, Client: 1, No: 1, Set: "a", Chunks: []string{idA}},
		{Kind: impl.CmCommit, Client: 1, No: 1, Name: "b", Chunks: []string{idA}},
		{Kind: impl.CmCommit, Client: 1, No: 1, Set: "a", Name: "b", Tag: "c", Chunks: []string{idA}},
		{Kind: impl.CmCommit, Client: 1, No: 1, Set: "a", Name: "b", N: 1, Chunks: []string{idA}},
		{Kind: impl.CmCommit, Client: 1, No: 1, Set: "a", Name: "b", Chunks: []string{idA[:7]}},
		{Kind: impl.CmCommit, Client: 1, No: 1, Set: "a", Name: "b", Chunks: []string{idA + "x"}},
		{Kind: impl.CmCommit, Client: 1, No: 1, Set: "a", Name: "b", Chunks: []string{idA, idA[:7], idA + "x"}},
		{Kind: impl.CmCommit, Client: 1, No: 1, Set: "a", Name: "b", Chunks: []string{idA, idA, idA, ""}},
		{Kind: impl.CmCommit, Client: 1, No: 1, Set: "a", Name: "b", Chunks: []string{idA, idA, idA, idA, idA}},
		{Kind: impl.CmTag, Client: 1, No: 1, Set: "a", Name: "b"},
		{Kind: impl.CmTag, Client: 1, No: 1, Set: "a", Tag: "b"},
		{Kind: impl.CmTag, Client: 1, No: 1, Name: "a", Tag: "b"},
		{Kind: impl.CmTag, Client: 1, No: 1, Set: "a", Name: "b", Tag: "c", Chunks: []string{idA}},
		{Kind: impl.CmList},
		{Kind: impl.CmList, Client: 1, No: 1, Set: "a"},
		{Kind: impl.CmList, Client: 1, No: 1, Name: "a"},
		{Kind: impl.CmList, Client: 1, No: 1, Tag: "a"},
		{Kind: impl.CmList, Client: 1, No: 1, N: 1},
		{Kind: impl.CmList, Client: 1, No: 1, Chunks: []string{idA}},
	}
}

// The values that one field is given while the others remain.
var (
	someInts   = []int{math.MinInt, -1 << 32, -1000, -1, 0, 1, 2, 7, 8, 9, 10, 99, 999, 1000, 1001, 1 << 32, 1<<32 + 1, impl.MaxVar, math.MaxInt}
	someTexts  = []string{"", "a", "z", "ab", "abcdefg", "abcdefgh", "abcdefghi", "A", "Z", "`", "{", "0", " ", "-", "\x00", "\xff", "é", "aA", "Ab", "a b", "ab\n", "a\x00", "abcdefg\x80", "abcdefgH", strings.Repeat("a", 1000)}
	someChunks = [][]string{nil, {}, {""}, {idA}, {idB}, {idA, idA}, {idA, idB}, {idB, idA, idB}, {idA, idA, idB, idB}, {idA, idA, idA, idA, idA}, {idA[:7]}, {idA + "x"}, {"", idA}, {idA, ""}, {idA, idB, idA[:7]}, {idA, idB, idA, idA + "x"}, {idA[:7], idA + "x"}, {idA + idB}, {"é234567"}, slices.Repeat([]string{idA}, 1000)}
)

// changedCmds calls visit with copies of c in which one field has another value.
func changedCmds(c impl.Cmd, visit func(impl.Cmd)) {
	for _, n := range someInts {
		for _, field := range []func(*impl.Cmd) *int{
			func(d *impl.Cmd) *int { return &d.Kind },
			func(d *impl.Cmd) *int { return &d.Client },
			func(d *impl.Cmd) *int { return &d.No },
			func(d *impl.Cmd) *int { return &d.N },
		} {
			d := c
			*field(&d) = n
			visit(d)
		}
	}
	for _, s := range someTexts {
		for _, field := range []func(*impl.Cmd) *string{
			func(d *impl.Cmd) *string { return &d.Set },
			func(d *impl.Cmd) *string { return &d.Name },
			func(d *impl.Cmd) *string { return &d.Tag },
		} {
			d := c
			*field(&d) = s
			visit(d)
		}
	}
	for _, l := range someChunks {
		d := c
		d.Chunks = l
		visit(d)
	}
}

var (
	wordForm  = regexp.MustCompile(`\A[a-z]{1,8}\z`)
	emptyForm = regexp.MustCompile(`\A\z`)
)

// cmdForm is what chapter 4 demands of the fields of one kind.
type cmdForm struct {
	set, name, tag       *regexp.Regexp
	maxN                 int
	minChunks, maxChunks int
}

var cmdForms = map[int]cmdForm{
	1: {wordForm, emptyForm, emptyForm, 0, 0, 0},
	2: {wordForm, emptyForm, emptyForm, 0, 0, 0},
	3: {wordForm, wordForm, emptyForm, 0, 1, 4},
	4: {wordForm, wordForm, wordForm, 0, 0, 0},
	5: {wordForm, emptyForm, emptyForm, 9, 0, 0},
	6: {wordForm, emptyForm, emptyForm, 0, 0, 0},
	7: {emptyForm, emptyForm, emptyForm, 0, 0, 0},
}

func wantCmdOk(c impl.Cmd) bool {
	if c.Kind == 0 {
		c.Chunks = append([]string(nil), c.Chunks...)
		return reflect.DeepEqual(c, impl.Cmd{})
	}
	form, ok := cmdForms[c.Kind]
	if !ok || c.Client < 1 || c.Client > 9 || c.No < 1 || c.No > 1000 || c.N < 0 || c.N > form.maxN {
		return false
	}
	if !form.set.MatchString(c.Set) || !form.name.MatchString(c.Name) || !form.tag.MatchString(c.Tag) {
		return false
	}
	return len(c.Chunks) >= form.minChunks && len(c.Chunks) <= form.maxChunks &&
		!slices.ContainsFunc(c.Chunks, func(s string) bool { return len(s) != 8 })
}

// rawCmd encodes a command, be it valid or not; a negative number becomes a
// great one.
func rawCmd(c impl.Cmd) string {
	var b []byte
	for _, n := range []int{c.Kind, c.Client, c.No, c.N} {
		b = binary.AppendUvarint(b, uint64(n))
	}
	for _, s := range []string{c.Set, c.Name, c.Tag} {
		b = append(binary.AppendUvarint(b, uint64(len(s))), s...)
	}
	b = binary.AppendUvarint(b, uint64(len(c.Chunks)))
	return string(b) + strings.Join(c.Chunks, "")
}

// wantReadCmd reads loosely and then asks whether the result is written as s.
func wantReadCmd(s string) (impl.Cmd, bool) {
	rest := s
	number := func() int {
		n, size := binary.Uvarint([]byte(rest))
		rest = rest[max(size, 0):]
		return int(n)
	}
	text := func(size int) string {
		size = min(max(size, 0), len(rest))
		taken := rest[:size]
		rest = rest[size:]
		return taken
	}
	var c impl.Cmd
	for _, field := range []*int{&c.Kind, &c.Client, &c.No, &c.N} {
		*field = number()
	}
	for _, field := range []*string{&c.Set, &c.Name, &c.Tag} {
		*field = text(number())
	}
	for range min(max(number(), 0), 9) {
		c.Chunks = append(c.Chunks, text(8))
	}
	if !wantCmdOk(c) || rawCmd(c) != s {
		return impl.Cmd{}, false
	}
	return c, true
}

// equalCmds is SameCmd written once more, so that a test of ReadCmd does not
// rest on the program's own comparison.
func equalCmds(a impl.Cmd, b impl.Cmd) bool {
	a.Chunks = append([]string(nil), a.Chunks...)
	b.Chunks = append([]string(nil), b.Chunks...)
	return reflect.DeepEqual(a, b)
}

func checkReadCmd(t *testing.T, s string) {
	t.Helper()
	want, wantOk := wantReadCmd(s)
	got, ok := impl.ReadCmd(s)
	if ok != wantOk || !equalCmds(got, want) {
		t.Fatalf("ReadCmd(%.100q) = %+v %v, want %+v %v", s, got, ok, want, wantOk)
	}
	if ok && impl.ShowCmd(got) != s {
		t.Fatalf("ReadCmd accepts %q, ShowCmd writes %q", s, impl.ShowCmd(got))
	}
}

func rejectCmd(t *testing.T, what string, s string) {
	t.Helper()
	if c, ok := impl.ReadCmd(s); ok || !equalCmds(c, impl.Cmd{}) {
		t.Errorf("%s: ReadCmd(%.100q) = %+v %v", what, s, c, ok)
	}
}

func TestCmdConstants(t *testing.T) {
	if !slices.Equal(cmdKinds, []int{0, 1, 2, 3, 4, 5, 6, 7}) || impl.MaxChunks != 4 || impl.MaxNo != 1000 {
		t.Error("constants", cmdKinds, impl.MaxChunks, impl.MaxNo)
	}
}

func TestCmdOkOfEachKind(t *testing.T) {
	seen := map[int]bool{}
	for _, c := range validCmds() {
		if !impl.CmdOk(c) {
			t.Errorf("%+v is not valid", c)
		}
		seen[c.Kind] = true
	}
	if len(seen) != len(cmdKinds) {
		t.Error("kinds without a valid command", seen)
	}
	for _, c := range invalidCmds() {
		if impl.CmdOk(c) {
			t.Errorf("%+v is valid", c)
		}
	}
}

func TestCmdOkAtTheLimitsOfNumbers(t *testing.T) {
	for _, c := range validCmds() {
		if c.Kind == impl.CmNoop {
			continue
		}
		for _, n := range someInts {
			d := c
			d.Kind = n
			// A kind may stand for another one that has the same fields.
			if want := wantCmdOk(d); impl.CmdOk(d) != want {
				t.Errorf("%+v: want %v", d, want)
			}
			d = c
			d.Client = n
			if want := n >= 1 && n <= 9; impl.CmdOk(d) != want {
				t.Errorf("%+v: want %v", d, want)
			}
			d = c
			d.No = n
			if want := n >= 1 && n <= impl.MaxNo; impl.CmdOk(d) != want {
				t.Errorf("%+v: want %v", d, want)
			}
			d = c
			d.N = n
			if want := n == 0 || c.Kind == impl.CmPrune && n >= 1 && n <= 9; impl.CmdOk(d) != want {
				t.Errorf("%+v: want %v", d, want)
			}
		}
	}
}

func TestCmdOkOfWords(t *testing.T) {
	tag := impl.Cmd{Kind: impl.CmTag, Client: 1, No: 1, Set: "a", Name: "b", Tag: "c"}
	check := func(s string, want bool) {
		t.Helper()
		for i, c := range []impl.Cmd{tag, tag, tag} {
			*[]*string{&c.Set, &c.Name, &c.Tag}[i] = s
			if impl.CmdOk(c) != want {
				t.Errorf("%+v: want %v", c, want)
			}
		}
	}
	for size := range 20 {
		check(strings.Repeat("q", size), size >= 1 && size <= 8)
	}
	for b := range 256 {
		one := string([]byte{byte(b)})
		letter := b >= 'a' && b <= 'z'
		for _, around := range [][2]string{{"", ""}, {"a", ""}, {"", "a"}, {"abc", "efgh"}, {"abcdefg", ""}, {"", "bcdefgh"}} {
			check(around[0]+one+around[1], letter)
		}
	}
}

func TestCmdOkOfChunks(t *testing.T) {
	commit := impl.Cmd{Kind: impl.CmCommit, Client: 1, No: 1, Set: "a", Name: "b"}
	for count := range 10 {
		c := commit
		c.Chunks = slices.Repeat([]string{idB}, count)
		if want := count >= 1 && count <= impl.MaxChunks; impl.CmdOk(c) != want {
			t.Errorf("%d chunks: want %v", count, want)
		}
		for at := range c.Chunks {
			for size := range 20 {
				d := c
				d.Chunks = slices.Clone(c.Chunks)
				d.Chunks[at] = strings.Repeat("\xff", size)
				if want := count <= impl.MaxChunks && size == 8; impl.CmdOk(d) != want {
					t.Errorf("%d chunks, number %d of %d bytes: want %v", count, at, size, want)
				}
			}
		}
	}
}

func TestCmdOkOfNoopWithAnyField(t *testing.T) {
	if !impl.CmdOk(impl.Cmd{}) || !impl.CmdOk(impl.Cmd{Chunks: []string{}}) || !impl.CmdOk(impl.Cmd{Chunks: make([]string, 0, 5)}) {
		t.Error("the zero command is not valid")
	}
	changedCmds(impl.Cmd{}, func(c impl.Cmd) {
		if want := equalCmds(c, impl.Cmd{}); impl.CmdOk(c) != want {
			t.Errorf("%+v: want %v", c, want)
		}
	})
	for _, c := range validCmds()[1:] {
		c.Kind = impl.CmNoop
		if impl.CmdOk(c) {
			t.Errorf("%+v is valid", c)
		}
	}
}

func TestCmdOkOfEveryCombination(t *testing.T) {
	for kind := -1; kind <= 8; kind++ {
		for _, set := range []string{"", "ab", "B"} {
			for _, name := range []string{"", "ab", "abcdefghi"} {
				for _, tag := range []string{"", "ab", "a-"} {
					for _, n := range []int{-1, 0, 1, 9, 10} {
						for _, chunks := range [][]string{nil, {idA}, {idA, idB, idA, idA}, {idA, idB, idA, idA, idA}, {idA[:7]}} {
							for _, who := range [][2]int{{1, 1}, {9, 1000}, {0, 1}, {10, 1}, {1, 0}, {1, 1001}, {0, 0}} {
								c := impl.Cmd{Kind: kind, Client: who[0], No: who[1], Set: set, Name: name, Tag: tag, N: n, Chunks: chunks}
								if want := wantCmdOk(c); impl.CmdOk(c) != want {
									t.Fatalf("%+v: want %v", c, want)
								}
							}
						}
					}
				}
			}
		}
	}
}

func TestClashOfEqualSets(t *testing.T) {
	ofSet := func(set string) []impl.Cmd {
		return []impl.Cmd{
			{Kind: impl.CmCreate, Client: 1, No: 1, Set: set},
			{Kind: impl.CmDelete, Client: 2, No: 1, Set: set},
			{Kind: impl.CmCommit, Client: 3, No: 1, Set: set, Name: "n", Chunks: []string{idA}},
			{Kind: impl.CmTag, Client: 4, No: 1, Set: set, Name: "n", Tag: "t"},
			{Kind: impl.CmPrune, Client: 5, No: 1, Set: set, N: 3},
			{Kind: impl.CmRead, Client: 6, No: 1, Set: set},
		}
	}
	sets := []string{"a", "b", "aa", "ab", "abcdefgh", "abcdefgi", "n", "t"}
	for _, x := range sets {
		for _, y := range sets {
			for _, a := range ofSet(x) {
				for _, b := range ofSet(y) {
					if impl.Clash(a, b) != (x == y) {
						t.Errorf("Clash(%+v, %+v) = %v", a, b, x != y)
					}
				}
			}
		}
	}
}

func TestClashOfAListOfAllSets(t *testing.T) {
	list := impl.Cmd{Kind: impl.CmList, Client: 9, No: 1000}
	other := impl.Cmd{Kind: impl.CmList, Client: 1, No: 7}
	if !impl.Clash(list, other) || !impl.Clash(other, list) || !impl.Clash(list, list) {
		t.Error("two lists do not conflict")
	}
	for _, c := range validCmds() {
		want := c.Kind != impl.CmNoop
		if impl.Clash(list, c) != want || impl.Clash(c, list) != want {
			t.Errorf("a list and %+v: want %v", c, want)
		}
	}
	for _, set := range []string{"a", "z", "ab", "abcdefgh", "zzzzzzzz"} {
		c := impl.Cmd{Kind: impl.CmRead, Client: 1, No: 1, Set: set}
		if !impl.Clash(list, c) || !impl.Clash(c, list) {
			t.Errorf("a list does not conflict with set %s", set)
		}
		bad := list
		bad.Set = set
		if impl.CmdOk(bad) || impl.Clash(bad, c) || impl.Clash(c, bad) || impl.Clash(bad, list) || impl.Clash(list, bad) || impl.Clash(bad, bad) || impl.ShowCmd(bad) != "" {
			t.Errorf("a list with set %s is taken for a command", set)
		}
	}
}

func TestClashWithNoopOrAnInvalidCommand(t *testing.T) {
	all := append(validCmds(), invalidCmds()...)
	none := append(invalidCmds(), impl.Cmd{}, impl.Cmd{Chunks: []string{}})
	for _, x := range none {
		for _, c := range all {
			if impl.Clash(x, c) || impl.Clash(c, x) {
				t.Errorf("%+v conflicts with %+v", x, c)
			}
		}
		if impl.Clash(x, x) {
			t.Errorf("%+v conflicts with itself", x)
		}
	}
}

func TestClashIsSymmetric(t *testing.T) {
	var all []impl.Cmd
	for _, c := range validCmds() {
		all = append(all, c)
		if impl.Clash(c, c) != (c.Kind != impl.CmNoop) {
			t.Errorf("%+v with itself: %v", c, impl.Clash(c, c))
		}
	}
	all = append(all, invalidCmds()...)
	changedCmds(validCmds()[8], func(c impl.Cmd) { all = append(all, c) })
	changedCmds(validCmds()[14], func(c impl.Cmd) { all = append(all, c) })
	for _, a := range all {
		for _, b := range all {
			want := wantCmdOk(a) && wantCmdOk(b) && a.Kind != 0 && b.Kind != 0 && (a.Kind == 7 || b.Kind == 7 || a.Set == b.Set)
			if impl.Clash(a, b) != want || impl.Clash(b, a) != want {
				t.Fatalf("Clash of %+v and %+v: %v and %v, want %v", a, b, impl.Clash(a, b), impl.Clash(b, a), want)
			}
		}
	}
}

func TestSameCmdLooksAtEveryField(t *testing.T) {
	full := impl.Cmd{Kind: 3, Client: 4, No: 5, Set: "s", Name: "n", Tag: "t", N: 6, Chunks: []string{idA, idB}}
	for _, c := range append(append(validCmds(), invalidCmds()...), full) {
		twin := c
		twin.Chunks = slices.Clone(c.Chunks)
		if !impl.SameCmd(c, c) || !impl.SameCmd(c, twin) || !impl.SameCmd(twin, c) {
			t.Errorf("%+v is not the same as itself", c)
		}
		changedCmds(c, func(d impl.Cmd) {
			want := equalCmds(c, d)
			if impl.SameCmd(c, d) != want || impl.SameCmd(d, c) != want {
				t.Errorf("SameCmd(%+v, %+v): want %v", c, d, want)
			}
		})
	}
	for i, d := range []impl.Cmd{
		{Kind: 4, Client: 4, No: 5, Set: "s", Name: "n", Tag: "t", N: 6, Chunks: []string{idA, idB}},
		{Kind: 3, Client: 3, No: 5, Set: "s", Name: "n", Tag: "t", N: 6, Chunks: []string{idA, idB}},
		{Kind: 3, Client: 4, No: 4, Set: "s", Name: "n", Tag: "t", N: 6, Chunks: []string{idA, idB}},
		{Kind: 3, Client: 4, No: 5, Set: "r", Name: "n", Tag: "t", N: 6, Chunks: []string{idA, idB}},
		{Kind: 3, Client: 4, No: 5, Set: "s", Name: "m", Tag: "t", N: 6, Chunks: []string{idA, idB}},
		{Kind: 3, Client: 4, No: 5, Set: "s", Name: "n", Tag: "u", N: 6, Chunks: []string{idA, idB}},
		{Kind: 3, Client: 4, No: 5, Set: "s", Name: "n", Tag: "t", N: 7, Chunks: []string{idA, idB}},
		{Kind: 3, Client: 4, No: 5, Set: "s", Name: "n", Tag: "t", N: 6, Chunks: []string{idB, idA}},
		{Kind: 3, Client: 4, No: 5, Set: "s", Name: "n", Tag: "t", N: 6, Chunks: []string{idA}},
		{Kind: 3, Client: 4, No: 5, Set: "s", Name: "n", Tag: "t", N: 6, Chunks: []string{idA, idB, ""}},
		{Kind: 3, Client: 4, No: 5, Set: "s", Name: "n", Tag: "t", N: 6, Chunks: []string{idA + idB}},
		{Kind: 3, Client: 4, No: 5, Set: "s", Name: "n", Tag: "t", N: 6},
	} {
		if impl.SameCmd(full, d) || impl.SameCmd(d, full) {
			t.Error("same as number", i)
		}
	}
}

func TestNilAndEmptyChunksAreEqual(t *testing.T) {
	for _, c := range append(validCmds(), invalidCmds()...) {
		if len(c.Chunks) > 0 {
			continue
		}
		d := c
		c.Chunks, d.Chunks = nil, []string{}
		if !impl.SameCmd(c, d) || !impl.SameCmd(d, c) {
			t.Errorf("%+v differs with an empty list", c)
		}
		if impl.CmdOk(c) != impl.CmdOk(d) || impl.ShowCmd(c) != impl.ShowCmd(d) || impl.Clash(c, c) != impl.Clash(c, d) || impl.Clash(d, c) != impl.Clash(d, d) {
			t.Errorf("%+v is treated in another way with an empty list", c)
		}
	}
}

func TestShowCmdBytes(t *testing.T) {
	for _, c := range []struct {
		cmd  impl.Cmd
		want string
	}{
		{impl.Cmd{}, "\x00\x00\x00\x00\x00\x00\x00\x00"},
		{impl.Cmd{Kind: impl.CmCreate, Client: 1, No: 127, Set: "a"}, "\x01\x01\x7f\x00\x01a\x00\x00\x00"},
		{impl.Cmd{Kind: impl.CmDelete, Client: 9, No: 128, Set: "abcdefgh"}, "\x02\x09\x80\x01\x00\x08abcdefgh\x00\x00\x00"},
		{impl.Cmd{Kind: impl.CmCommit, Client: 2, No: 300, Set: "a", Name: "bc", Chunks: []string{idB, idA}}, "\x03\x02\xac\x02\x00\x01a\x02bc\x00\x02" + idB + idA},
		{impl.Cmd{Kind: impl.CmTag, Client: 3, No: 1000, Set: "a", Name: "bc", Tag: "def"}, "\x04\x03\xe8\x07\x00\x01a\x02bc\x03def\x00"},
		{impl.Cmd{Kind: impl.CmPrune, Client: 4, No: 2, Set: "z", N: 9}, "\x05\x04\x02\x09\x01z\x00\x00\x00"},
		{impl.Cmd{Kind: impl.CmRead, Client: 5, No: 3, Set: "yz"}, "\x06\x05\x03\x00\x02yz\x00\x00\x00"},
		{impl.Cmd{Kind: impl.CmList, Client: 6, No: 4}, "\x07\x06\x04\x00\x00\x00\x00\x00"},
	} {
		if got := impl.ShowCmd(c.cmd); got != c.want {
			t.Errorf("ShowCmd(%+v) = %q, want %q", c.cmd, got, c.want)
		}
		if got, ok := impl.ReadCmd(c.want); !ok || !equalCmds(got, c.cmd) {
			t.Errorf("ReadCmd(%q) = %+v %v", c.want, got, ok)
		}
	}
}

func TestShowCmdIsReadBack(t *testing.T) {
	seen := map[string]impl.Cmd{}
	check := func(c impl.Cmd) {
		s := impl.ShowCmd(c)
		if !wantCmdOk(c) {
			if s != "" {
				t.Fatalf("ShowCmd(%+v) = %q", c, s)
			}
			return
		}
		if s != rawCmd(c) {
			t.Fatalf("ShowCmd(%+v) = %q, want %q", c, s, rawCmd(c))
		}
		if before, ok := seen[s]; ok && !equalCmds(before, c) {
			t.Fatalf("%+v and %+v have one encoding", before, c)
		}
		seen[s] = c
		if got, ok := impl.ReadCmd(s); !ok || !equalCmds(got, c) || !impl.SameCmd(got, c) || !impl.CmdOk(got) {
			t.Fatalf("ReadCmd(%q) = %+v %v, want %+v", s, got, ok, c)
		}
	}
	for _, c := range append(validCmds(), invalidCmds()...) {
		check(c)
		changedCmds(c, check)
	}
	for no := -3; no <= impl.MaxNo+3; no++ {
		for client := -1; client <= 11; client++ {
			check(impl.Cmd{Kind: impl.CmList, Client: client, No: no})
		}
	}
}

func TestReadCmdRejectsPrefixesAndLongerStrings(t *testing.T) {
	for _, c := range validCmds() {
		s := impl.ShowCmd(c)
		for size := range len(s) {
			rejectCmd(t, "prefix", s[:size])
		}
		for b := range 256 {
			rejectCmd(t, "a byte more", s+string([]byte{byte(b)}))
		}
		rejectCmd(t, "twice", s+s)
		rejectCmd(t, "a chunk more", s+idA)
		rejectCmd(t, "a byte before", "\x00"+s)
		if s[0] != 0 {
			rejectCmd(t, "without the first byte", s[1:])
		}
	}
	rejectCmd(t, "empty", "")
}

// cmdParts splits an encoding into its varints and what is between them.
func cmdParts(c impl.Cmd) (parts []string, isNumber []bool) {
	add := func(number bool, s string) {
		parts = append(parts, s)
		isNumber = append(isNumber, number)
	}
	for _, n := range []int{c.Kind, c.Client, c.No, c.N} {
		add(true, impl.Var(n))
	}
	for _, s := range []string{c.Set, c.Name, c.Tag} {
		add(true, impl.Var(len(s)))
		add(false, s)
	}
	add(true, impl.Var(len(c.Chunks)))
	add(false, strings.Join(c.Chunks, ""))
	return parts, isNumber
}

func TestReadCmdRejectsOtherNumbers(t *testing.T) {
	for _, c := range validCmds() {
		parts, isNumber := cmdParts(c)
		if strings.Join(parts, "") != impl.ShowCmd(c) {
			t.Fatalf("the parts of %+v", c)
		}
		for i, part := range parts {
			if !isNumber[i] {
				continue
			}
			with := func(number string) string {
				changed := slices.Clone(parts)
				changed[i] = number
				return strings.Join(changed, "")
			}
			last := len(part) - 1
			rejectCmd(t, "a superfluous byte", with(part[:last]+string([]byte{part[last] + 128, 0})))
			rejectCmd(t, "two superfluous bytes", with(part[:last]+string([]byte{part[last] + 128, 128, 0})))
			rejectCmd(t, "a number without an end", with("\xff\xff\xff\xff\xff\xff\xff\xff\xff\xff"))
			rejectCmd(t, "a number beyond MaxVar", with(string(binary.AppendUvarint(nil, impl.MaxVar+1))))
			rejectCmd(t, "no int", with(string(binary.AppendUvarint(nil, math.MaxUint64))))
			for n := range 1200 {
				checkReadCmd(t, with(impl.Var(n)))
			}
			for shift := 10; shift < 64; shift++ {
				// Taken modulo a power of 2, these are the numbers that were there.
				n, _ := impl.ReadVar(part)
				far := uint64(1)<<shift + uint64(n)
				rejectCmd(t, "a number far too great", with(string(binary.AppendUvarint(nil, far))))
			}
		}
	}
}

func TestReadCmdRejectsLengthsBeyondTheEnd(t *testing.T) {
	head := "\x03\x01\x01\x00"
	for _, c := range []struct{ what, s string }{
		{"set of 2 in 1", head + "\x02a"},
		{"set of MaxVar", head + impl.Var(impl.MaxVar) + "a\x01b\x00\x01" + idA},
		{"name of 3 in 2", head + "\x01a\x03bb"},
		{"name of MaxVar", head + "\x01a" + impl.Var(impl.MaxVar) + "b\x00\x01" + idA},
		{"tag of MaxVar", head + "\x01a\x01b" + impl.Var(impl.MaxVar) + "\x01" + idA},
		{"name that takes the rest", head + "\x01a\x0bb\x00\x01" + idA},
		{"no number of chunks", head + "\x01a\x01b\x00"},
		{"no chunk", head + "\x01a\x01b\x00\x00"},
		{"1 chunk that is not there", head + "\x01a\x01b\x00\x01"},
		{"a chunk of 7 bytes", head + "\x01a\x01b\x00\x01" + idA[:7]},
		{"a chunk of 9 bytes", head + "\x01a\x01b\x00\x01" + idA + "x"},
		{"2 chunks, 1 there", head + "\x01a\x01b\x00\x02" + idA},
		{"2 chunks, 15 bytes", head + "\x01a\x01b\x00\x02" + idA + idA[:7]},
		{"1 chunk, 2 there", head + "\x01a\x01b\x00\x01" + idA + idA},
		{"5 chunks", head + "\x01a\x01b\x00\x05" + strings.Repeat(idA, 5)},
		{"5 chunks, 4 there", head + "\x01a\x01b\x00\x05" + strings.Repeat(idA, 4)},
		{"5 chunks, none there", head + "\x01a\x01b\x00\x05"},
		{"100 chunks", head + "\x01a\x01b\x00\x64" + strings.Repeat(idA, 100)},
		{"200 chunks", head + "\x01a\x01b\x00" + impl.Var(200) + strings.Repeat(idA, 200)},
		{"MaxVar chunks", head + "\x01a\x01b\x00" + impl.Var(impl.MaxVar) + idA},
		{"MaxVar chunks, 4 there", head + "\x01a\x01b\x00" + impl.Var(impl.MaxVar) + strings.Repeat(idA, 4)},
		{"4 GiB of chunks and 1", head + "\x01a\x01b\x00" + impl.Var(1<<29+1) + idA},
		{"a list with chunks", "\x07\x01\x01\x00\x00\x00\x00\x01" + idA},
		{"a noop with chunks", "\x00\x00\x00\x00\x00\x00\x00\x01" + idA},
	} {
		rejectCmd(t, c.what, c.s)
		checkReadCmd(t, c.s)
	}
	// What the others are changed from is accepted.
	for count := 1; count <= impl.MaxChunks; count++ {
		s := head + "\x01a\x01b\x00" + impl.Var(count) + strings.Repeat(idA, count)
		if c, ok := impl.ReadCmd(s); !ok || len(c.Chunks) != count {
			t.Errorf("%d chunks: %+v %v", count, c, ok)
		}
	}
}

func TestReadCmdRejectsEncodingsOfInvalidCommands(t *testing.T) {
	for _, c := range invalidCmds() {
		// Chunks of 8, 7 and 9 bytes are written like three others of 8.
		if len(strings.Join(c.Chunks, "")) == 8*len(c.Chunks) && len(c.Chunks) == 3 {
			checkReadCmd(t, rawCmd(c))
			continue
		}
		rejectCmd(t, "invalid command", rawCmd(c))
		checkReadCmd(t, rawCmd(c))
	}
	for _, c := range validCmds() {
		changedCmds(c, func(d impl.Cmd) { checkReadCmd(t, rawCmd(d)) })
	}
}

func TestReadCmdOfChangedEncodings(t *testing.T) {
	for _, c := range validCmds() {
		s := impl.ShowCmd(c)
		for at := range len(s) {
			for b := range 256 {
				one := string([]byte{byte(b)})
				checkReadCmd(t, s[:at]+one+s[at+1:])
				checkReadCmd(t, s[:at]+one+s[at:])
			}
			checkReadCmd(t, s[:at]+s[at+1:])
		}
	}
}

func TestReadCmdOfAnyString(t *testing.T) {
	stringsUpTo(allBytes(), 2, func(s string) { rejectCmd(t, "short", s) })
	stringsUpTo("\x00\x01\x07a\x80", 8, func(s string) { checkReadCmd(t, s) })
	for size := range 120 {
		for seed := range uint64(30) {
			checkReadCmd(t, someBytes(seed+1000*uint64(size), size))
		}
		checkReadCmd(t, strings.Repeat("\x00", size))
		checkReadCmd(t, strings.Repeat("\xff", size))
		checkReadCmd(t, strings.Repeat("a", size))
	}
	rejectCmd(t, "long", strings.Repeat("\x01", 1<<22))
	rejectCmd(t, "a long set", "\x01\x01\x01\x00"+impl.Var(1<<22)+strings.Repeat("a", 1<<22)+"\x00\x00\x00")
	rejectCmd(t, "many chunks", "\x03\x01\x01\x00\x01a\x01b\x00"+impl.Var(1<<19)+strings.Repeat(idA, 1<<19))
}

func TestCmdFunctionsChangeNoArgument(t *testing.T) {
	for _, c := range append(validCmds(), invalidCmds()...) {
		room := append(slices.Clone(c.Chunks), "spare--1", "spare--2", "spare--3")
		before := slices.Clone(room)
		d := c
		d.Chunks = room[:len(c.Chunks)]
		for _, e := range validCmds() {
			impl.Clash(d, e)
			impl.Clash(e, d)
			impl.SameCmd(d, e)
			impl.SameCmd(e, d)
		}
		impl.CmdOk(d)
		impl.ShowCmd(d)
		if !slices.Equal(room, before) || !equalCmds(c, d) {
			t.Errorf("%+v became %+v, with %q", c, d, room)
		}
	}
}

func TestReadCmdSharesNoMemory(t *testing.T) {
	for _, c := range validCmds() {
		bytes := []byte(impl.ShowCmd(c))
		s := string(bytes)
		first, _ := impl.ReadCmd(s)
		second, _ := impl.ReadCmd(s)
		whole := first.Chunks[:cap(first.Chunks)]
		for i := range whole {
			whole[i] = "changed-"
		}
		first.Chunks = append(first.Chunks, "more----")
		third, ok := impl.ReadCmd(s)
		if !ok || !equalCmds(second, c) || !equalCmds(third, c) || s != string(bytes) {
			t.Errorf("%+v: %+v and %+v after another result was changed", c, second, third)
		}
	}
}

// shareBytes reports whether a byte of a is the same one in memory as one of b.
func shareBytes(a string, b string) bool {
	if a == "" || b == "" {
		return false
	}
	x, y := uintptr(unsafe.Pointer(unsafe.StringData(a))), uintptr(unsafe.Pointer(unsafe.StringData(b)))
	return x < y+uintptr(len(b)) && y < x+uintptr(len(a))
}

func TestReadCmdKeepsNoPieceOfItsArgument(t *testing.T) {
	for _, c := range validCmds() {
		s := impl.ShowCmd(c)
		first, _ := impl.ReadCmd(s)
		second, _ := impl.ReadCmd(s)
		for i, a := range append([]string{first.Set, first.Name, first.Tag}, first.Chunks...) {
			for j, b := range append([]string{s, second.Set, second.Name, second.Tag}, second.Chunks...) {
				if shareBytes(a, b) {
					t.Errorf("%+v: text %d shares memory with %d", c, i, j)
				}
			}
		}
	}
}

func TestCmdFunctionsKeepNoState(t *testing.T) {
	all := append(validCmds(), invalidCmds()...)
	for _, c := range all {
		ok, shown := impl.CmdOk(c), impl.ShowCmd(c)
		for _, d := range all {
			impl.Clash(c, d)
			impl.ReadCmd(impl.ShowCmd(d))
			impl.ReadCmd(impl.ShowCmd(d) + "x")
		}
		if impl.CmdOk(c) != ok || impl.ShowCmd(c) != shown {
			t.Errorf("%+v has another result later", c)
		}
	}
}
