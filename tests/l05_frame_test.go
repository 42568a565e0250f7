package tests

import (
	"encoding/binary"
	"hash/crc32"
	"slices"
	"strings"
	"testing"
	"unsafe"

	"loop.example/g00954/impl"
)

// rawFrame puts the right checksum before rest, whatever rest is.
func rawFrame(rest string) string {
	sum := crc32.Checksum([]byte(rest), crc32.MakeTable(crc32.Castagnoli))
	return string(binary.BigEndian.AppendUint32(nil, sum)) + rest
}

// wantFrame writes a frame with no function of the program.
func wantFrame(s string) string {
	if len(s) > 200 {
		return ""
	}
	return rawFrame(string(binary.AppendUvarint(nil, uint64(len(s)))) + s)
}

// wantUnframe tries every length at every offset: there is a frame if it is
// the one that is written for the bytes that would be its contents.
func wantUnframe(s string) ([]string, int) {
	var contents []string
	at := 0
	for {
		found := false
		for size := range 201 {
			start := at + 5
			if size >= 128 {
				start++
			}
			if start+size > len(s) {
				break
			}
			// The low bits of the length spare most of the checksums.
			if int(s[at+4])%128 != size%128 {
				continue
			}
			content := s[start : start+size]
			if s[at:start+size] == wantFrame(content) {
				contents = append(contents, content)
				at = start + size
				found = true
				break
			}
		}
		if !found {
			return contents, at
		}
	}
}

// checkUnframe is for strings of which only the rules are known.
func checkUnframe(t *testing.T, s string) {
	t.Helper()
	contents, end := wantUnframe(s)
	wantFrames(t, s, contents, end)
}

func wantFrames(t *testing.T, s string, contents []string, end int) {
	t.Helper()
	got, at := impl.Unframe(s)
	if !slices.Equal(got, contents) || at != end {
		t.Fatalf("Unframe(%.80q) of %d bytes = %.80q, %d, want %.80q, %d", s, len(s), got, at, contents, end)
	}
}

func joinFrames(contents []string) string {
	var all strings.Builder
	for _, s := range contents {
		all.WriteString(impl.Frame(s))
	}
	return all.String()
}

// frameLists has lists of contents of every kind that the chapter tells apart.
func frameLists() [][]string {
	full := someBytes(3, impl.MaxFrame)
	return [][]string{
		{"hi", "", "ho"},
		{""},
		{"", ""},
		{"", "", "", "", ""},
		{"", "a"},
		{"a", ""},
		{"a", "", "", "b"},
		{"\x00", "\x00\x00", "", "\x00\x00\x00\x00\x00"},
		{someBytes(1, 127), someBytes(2, 128)},
		{full, "", full},
		{"same", "same", "same"},
		{impl.Frame("inner"), impl.Frame("")},
		{"\xff\xfe", "é", "日本語", "\x80\x80"},
	}
}

// notFrames are bytes at which no frame begins, also if a frame follows.
func notFrames() []string {
	return []string{
		"\x00", "x", "\xff", "\x80",
		"\x00\x00\x00\x00", "\x00\x00\x00\x00\x00", "\x00\x00\x00\x00\x00\x00",
		"\xff\xff\xff\xff\xff\xff\xff\xff\xff\xff\xff\xff",
		strings.Repeat("\x00", 300), strings.Repeat("x", 300), someBytes(4, 300),
		"a longer text that is not a frame",
	}
}

func TestFrameBytes(t *testing.T) {
	if impl.MaxFrame != 200 {
		t.Errorf("MaxFrame = %d", impl.MaxFrame)
	}
	for _, c := range []struct{ s, want string }{
		{"", "\x52\x7d\x53\x51\x00"},
		{"a", "\x71\x6e\xff\xc4\x01a"},
		{"hi", "\x2b\xf7\x5f\x67\x02hi"},
		{"23456789", rawFrame("\x0823456789")},
		{strings.Repeat("z", 127), rawFrame("\x7f" + strings.Repeat("z", 127))},
		{strings.Repeat("z", 128), rawFrame("\x80\x01" + strings.Repeat("z", 128))},
		{strings.Repeat("z", 200), rawFrame("\xc8\x01" + strings.Repeat("z", 200))},
	} {
		if got := impl.Frame(c.s); got != c.want {
			t.Errorf("Frame(%.40q) = %.60q, want %.60q", c.s, got, c.want)
		}
	}
}

func TestFrameOfEverySize(t *testing.T) {
	for size := range impl.MaxFrame + 1 {
		for _, s := range []string{someBytes(uint64(size), size), strings.Repeat("\x00", size), strings.Repeat("\xff", size)} {
			rest := impl.Var(size) + s
			got := impl.Frame(s)
			if got != impl.Fixed(impl.Crc(rest), 4)+rest || got != wantFrame(s) {
				t.Fatalf("%d bytes: %q", size, got)
			}
			wantFrames(t, got, []string{s}, len(got))
		}
	}
}

func TestFrameThatIsTooLong(t *testing.T) {
	for _, size := range []int{impl.MaxFrame + 1, impl.MaxFrame + 2, 255, 256, 257, 456, 1 << 14, 1 << 20} {
		for _, s := range []string{strings.Repeat("a", size), strings.Repeat("\x00", size)} {
			if got := impl.Frame(s); got != "" {
				t.Errorf("Frame of %d bytes has %d bytes", size, len(got))
			}
		}
	}
	// Lengths count bytes, not characters.
	if impl.Frame(strings.Repeat("é", 100)) == "" || impl.Frame(strings.Repeat("é", 101)) != "" {
		t.Error("100 characters of two bytes are the most that fit")
	}
}

func TestUnframeOfNothing(t *testing.T) {
	wantFrames(t, "", nil, 0)
	for _, s := range notFrames() {
		wantFrames(t, s, nil, 0)
	}
}

func TestUnframeOfEmptyFrames(t *testing.T) {
	empty := impl.Frame("")
	if len(empty) != 5 {
		t.Fatalf("Frame of the empty string is %q", empty)
	}
	for count := range 100 {
		s := strings.Repeat(empty, count)
		none := make([]string, count)
		wantFrames(t, s, none, 5*count)
		wantFrames(t, impl.Frame("a")+s, append([]string{"a"}, none...), 6+5*count)
		wantFrames(t, s+impl.Frame("a"), append(slices.Clone(none), "a"), 5*count+6)
		wantFrames(t, impl.Frame("a")+s+impl.Frame("bc"), slices.Concat([]string{"a"}, none, []string{"bc"}), 13+5*count)
		for cut := 1; cut < 5; cut++ {
			wantFrames(t, s+empty[:cut], none, 5*count)
		}
	}
}

func TestUnframeReadsFramesInOrder(t *testing.T) {
	for _, l := range frameLists() {
		s := joinFrames(l)
		wantFrames(t, s, l, len(s))
		checkUnframe(t, s)
		turned := slices.Clone(l)
		slices.Reverse(turned)
		wantFrames(t, joinFrames(turned), turned, len(s))
	}
	// Neighbours of every pair of sizes around those at which the length grows.
	sizes := []int{0, 1, 2, 126, 127, 128, 129, 199, 200}
	for _, a := range sizes {
		for _, b := range sizes {
			l := []string{someBytes(uint64(a), a), someBytes(uint64(b)+500, b)}
			s := joinFrames(l)
			wantFrames(t, s, l, len(s))
		}
	}
}

func TestUnframeOfEveryPrefix(t *testing.T) {
	for _, l := range frameLists() {
		s := joinFrames(l)
		whole, end := 0, 0
		for cut := range len(s) {
			if next := end + len(impl.Frame(l[whole])); cut == next {
				whole, end = whole+1, next
			}
			wantFrames(t, s[:cut], l[:whole], end)
		}
		if whole != len(l)-1 {
			t.Fatalf("%q: %d frames are whole before the last byte", l, whole)
		}
	}
}

func TestUnframeOfFramesAndOtherBytes(t *testing.T) {
	for _, l := range frameLists() {
		s := joinFrames(l)
		for _, other := range notFrames() {
			wantFrames(t, s+other, l, len(s))
			// What is behind the other bytes is not read any more.
			wantFrames(t, s+other+s, l, len(s))
			wantFrames(t, other+s, nil, 0)
		}
		for cut := 1; cut < 5; cut++ {
			wantFrames(t, s[cut:], nil, 0)
		}
	}
}

func TestUnframeOfAChangedByte(t *testing.T) {
	for _, l := range frameLists() {
		s := joinFrames(l)
		end := 0
		for whole, content := range l {
			next := end + len(impl.Frame(content))
			for at := end; at < next; at++ {
				for bit := range 8 {
					wantFrames(t, flipBit(s, at, bit), l[:whole], end)
				}
			}
			end = next
		}
	}
	for _, l := range [][]string{{"hi", "", "ho"}, {"", "abc"}, {"\x00\x00", ""}} {
		s := joinFrames(l)
		for at := range len(s) {
			whole, end := wantUnframe(s[:at])
			for more := 1; more < 256; more++ {
				b := []byte(s)
				b[at] += byte(more)
				wantFrames(t, string(b), whole, end)
			}
		}
	}
}

func TestUnframeOfALostOrAnAddedByte(t *testing.T) {
	for _, l := range frameLists() {
		s := joinFrames(l)
		for at := range len(s) {
			checkUnframe(t, s[:at]+s[at+1:])
			for _, more := range []string{"\x00", "\x01", "\x80", "\xff", s[at : at+1]} {
				checkUnframe(t, s[:at]+more+s[at:])
			}
		}
	}
}

// rejectRest tells that rest with the right checksum is no frame, alone and
// among others.
func rejectRest(t *testing.T, what string, rest string) {
	t.Helper()
	f, a := rawFrame(rest), impl.Frame("a")
	for _, c := range []struct {
		s    string
		want []string
	}{
		{f, nil}, {a + f, []string{"a"}}, {a + a + f, []string{"a", "a"}},
	} {
		got, at := impl.Unframe(c.s)
		if !slices.Equal(got, c.want) || at != len(a)*len(c.want) {
			t.Errorf("%s: Unframe(%.60q) = %.60q, %d", what, c.s, got, at)
		}
	}
}

func TestUnframeRejectsALengthBeyondTheEnd(t *testing.T) {
	for size := range impl.MaxFrame + 1 {
		for _, missing := range []int{1, 2, size / 2, size} {
			if missing >= 1 && missing <= size {
				rejectRest(t, "length beyond the end", impl.Var(size)+someBytes(uint64(size), size-missing))
			}
		}
	}
	for _, size := range []int{201, 255, 256, 1 << 14, 1 << 31, 1 << 32, impl.MaxVar - 1, impl.MaxVar} {
		for _, s := range []string{"", "a", strings.Repeat("a", impl.MaxFrame)} {
			rejectRest(t, "length beyond the end", impl.Var(size)+s)
		}
	}
	// The checksum is that of the whole contents, of which the end is lost.
	s := impl.Frame("abc")
	wantFrames(t, s[:len(s)-1], nil, 0)
}

func TestUnframeRejectsALengthBeyondTheLimit(t *testing.T) {
	for size := impl.MaxFrame + 1; size <= impl.MaxFrame+300; size++ {
		rejectRest(t, "length beyond the limit", impl.Var(size)+someBytes(uint64(size), size))
	}
	for _, size := range []int{1 << 14, 1 << 16, 1 << 20} {
		rejectRest(t, "length beyond the limit", impl.Var(size)+strings.Repeat("a", size))
	}
	longest := strings.Repeat("a", impl.MaxFrame)
	f := rawFrame(impl.Var(impl.MaxFrame) + longest)
	wantFrames(t, f, []string{longest}, len(f))
}

func TestUnframeRejectsALengthThatIsNoVarint(t *testing.T) {
	for _, c := range []struct{ what, length, s string }{
		{"superfluous byte", "\x80\x00", ""},
		{"superfluous byte", "\x81\x00", "a"},
		{"superfluous byte", "\x82\x00", "hi"},
		{"superfluous byte", "\xff\x00", strings.Repeat("a", 127)},
		{"superfluous byte", "\x80\x81\x00", strings.Repeat("a", 128)},
		{"superfluous byte", "\xc8\x81\x00", strings.Repeat("a", 200)},
		{"superfluous bytes", "\x80\x80\x00", ""},
		{"superfluous bytes", "\x82\x80\x80\x80\x80\x80\x00", "hi"},
		{"superfluous bytes", "\x82\x80\x80\x80\x80\x80\x80\x00", "hi"},
		{"no length", "", ""},
		{"length without an end", "\x80", ""},
		{"length without an end", "\xff\xff\xff", ""},
		{"length of too many bytes", "\xff\xff\xff\xff\xff\xff\xff\x01", "abc"},
		{"length of too many bytes", "\xff\xff\xff\xff\xff\xff\xff\xff\xff\x01", "abc"},
	} {
		rejectRest(t, c.what, c.length+c.s)
	}
	for size := range impl.MaxFrame + 1 {
		low := impl.Var(size)
		last := len(low) - 1
		rejectRest(t, "superfluous byte", low[:last]+string([]byte{low[last] + 128, 0})+someBytes(9, size))
	}
}

func TestUnframeRejectsOtherChecksums(t *testing.T) {
	for _, s := range []string{"", "a", "hi", "123456789", someBytes(6, 128)} {
		rest := impl.Var(len(s)) + s
		right := impl.Crc(rest)
		sum := impl.Fixed(right, 4)
		turned := []byte(sum)
		slices.Reverse(turned)
		for _, wrong := range []string{
			string(turned),
			impl.Fixed(4294967295-right, 4),
			impl.Fixed((right+1)%4294967296, 4),
			impl.Fixed((right+1<<31)%4294967296, 4),
			impl.Fixed(impl.Crc(s), 4),
			impl.Fixed(impl.Crc(s+impl.Var(len(s))), 4),
			impl.Fixed(int(crc32.ChecksumIEEE([]byte(rest))), 4),
			impl.Fixed(right, 5),
			sum[1:],
			"",
			"\x00\x00\x00\x00",
		} {
			if wrong != sum {
				wantFrames(t, wrong+rest, nil, 0)
				wantFrames(t, impl.Frame("a")+wrong+rest, []string{"a"}, 6)
			}
		}
		// The checksum stands before the rest, not behind it.
		wantFrames(t, rest+sum, nil, 0)
	}
}

func TestUnframeOpensOneLayer(t *testing.T) {
	inner := impl.Frame("a") + impl.Frame("")
	f := impl.Frame(inner)
	wantFrames(t, f, []string{inner}, len(f))
	// A frame inside torn contents is not looked for.
	wantFrames(t, f[:len(f)-1], nil, 0)
	wantFrames(t, f[5:], []string{"a", ""}, len(inner))
}

func TestUnframeOfAnyString(t *testing.T) {
	empty := impl.Frame("")
	stringsUpTo("\x00\x01\x80"+empty, 5, func(s string) { checkUnframe(t, s) })
	// Pieces of frames in every order, whole ones among them.
	f, g := impl.Frame("ab"), impl.Frame("\x00")
	pieces := []string{f, g, empty, f[:4], f[4:], g[:5], "\x00", f[1:]}
	stringsUpTo("01234567", 5, func(order string) {
		s := ""
		for i := range len(order) {
			s += pieces[order[i]-'0']
		}
		checkUnframe(t, s)
	})
	for seed := range 300 {
		checkUnframe(t, someBytes(uint64(seed), seed))
	}
}

func TestUnframeOfManyFrames(t *testing.T) {
	var l []string
	for i := range 30000 {
		l = append(l, someBytes(uint64(i), i%(impl.MaxFrame+1)))
	}
	s := joinFrames(l)
	wantFrames(t, s, l, len(s))
	wantFrames(t, s[:len(s)-1], l[:len(l)-1], len(s)-len(impl.Frame(l[len(l)-1])))
	wantFrames(t, s+strings.Repeat("\x00", 1<<20), l, len(s))
	count := 300000
	wantFrames(t, strings.Repeat(impl.Frame(""), count), make([]string, count), 5*count)
}

func TestFramesChangeNoArgument(t *testing.T) {
	for _, l := range frameLists() {
		for _, text := range append([]string{joinFrames(l), joinFrames(l) + "x"}, l...) {
			b := []byte(text + "behind")
			s := unsafe.String(unsafe.SliceData(b), len(text))
			impl.Unframe(s)
			impl.Frame(s)
			if string(b) != text+"behind" {
				t.Fatalf("%.60q has become %.60q", text, b)
			}
		}
	}
}

func TestFramesShareNoMemory(t *testing.T) {
	for _, l := range frameLists() {
		s := joinFrames(l)
		first, _ := impl.Unframe(s)
		second, _ := impl.Unframe(s)
		for i, a := range first {
			for j, b := range append([]string{s}, second...) {
				if shareBytes(a, b) {
					t.Errorf("%.60q: content %d shares memory with %d", l, i, j)
				}
			}
			if shareBytes(a, impl.Frame(a)) {
				t.Errorf("Frame(%.60q) shares memory with its argument", a)
			}
		}
		for i := range first {
			first[i] = "changed"
		}
		if !slices.Equal(second, l) {
			t.Errorf("%.60q: a change of one list changes another: %.60q", l, second)
		}
	}
}

func TestFramesKeepNoState(t *testing.T) {
	torn := impl.Frame("torn")
	torn = torn[:len(torn)-1]
	for _, l := range frameLists() {
		s := joinFrames(l)
		for range 2 {
			impl.Unframe(torn)
			impl.Frame(strings.Repeat("a", impl.MaxFrame+1))
			wantFrames(t, s, l, len(s))
			if joinFrames(l) != s {
				t.Errorf("%.60q: other frames at the second time", l)
			}
		}
	}
}
