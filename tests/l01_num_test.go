package tests

import (
	"encoding/binary"
	"encoding/hex"
	"fmt"
	"math"
	"math/big"
	"strings"
	"testing"

	"loop.example/g00954/impl"
)

// stringsUpTo calls visit with every string of at most size bytes of the alphabet.
func stringsUpTo(alphabet string, size int, visit func(string)) {
	visit("")
	if size == 0 {
		return
	}
	for i := range len(alphabet) {
		stringsUpTo(alphabet, size-1, func(s string) { visit(alphabet[i:i+1] + s) })
	}
}

func allBytes() string {
	b := make([]byte, 256)
	for i := range b {
		b[i] = byte(i)
	}
	return string(b)
}

// someNumbers are the powers of 2 with their neighbours, and numbers of every
// length in between, all from 0 to limit.
func someNumbers(limit int) []int {
	out := []int{0, limit}
	for i := range 62 {
		for _, n := range []int{1<<i - 1, 1 << i, 1<<i + 1} {
			out = append(out, n)
		}
	}
	x := uint64(88172645463325252)
	for i := range 500 {
		x ^= x << 13
		x ^= x >> 7
		x ^= x << 17
		out = append(out, int(x>>1>>(i%63)))
	}
	var kept []int
	for _, n := range out {
		if n <= limit {
			kept = append(kept, n)
		}
	}
	return kept
}

var tails = []string{"", "\x00", "z", "\x80", "\xff\xff\xff\xff\xff\xff\xff\xff\xff"}

func TestFixedWritesBigEndian(t *testing.T) {
	for _, c := range []struct {
		n, width int
		want     string
	}{
		{258, 2, "\x01\x02"},
		{0, 1, "\x00"},
		{0, 7, "\x00\x00\x00\x00\x00\x00\x00"},
		{7, 3, "\x00\x00\x07"},
		{255, 1, "\xff"},
		{65535, 2, "\xff\xff"},
		{1<<56 - 1, 7, "\xff\xff\xff\xff\xff\xff\xff"},
		{0x01020304050607, 7, "\x01\x02\x03\x04\x05\x06\x07"},
	} {
		if got := impl.Fixed(c.n, c.width); got != c.want {
			t.Errorf("Fixed(%d, %d) = %q, want %q", c.n, c.width, got, c.want)
		}
	}
}

func TestFixedFitsItsWidthOrIsEmpty(t *testing.T) {
	for width := 1; width <= 7; width++ {
		for _, n := range someNumbers(math.MaxInt) {
			want := ""
			if n < 1<<(8*width) {
				var whole [8]byte
				binary.BigEndian.PutUint64(whole[:], uint64(n))
				want = string(whole[8-width:])
			}
			if got := impl.Fixed(n, width); got != want {
				t.Errorf("Fixed(%d, %d) = %q, want %q", n, width, got, want)
			}
		}
		if impl.Fixed(1<<(8*width)-1, width) == "" || impl.Fixed(1<<(8*width), width) != "" {
			t.Errorf("width %d: the greatest number that fits", width)
		}
	}
}

func TestFixedRejectsWidthsAndNegativeNumbers(t *testing.T) {
	for _, width := range []int{0, 8, 9, 64, -1, math.MaxInt, math.MinInt} {
		for _, n := range []int{0, 1, 255} {
			if got := impl.Fixed(n, width); got != "" {
				t.Errorf("Fixed(%d, %d) = %q", n, width, got)
			}
		}
	}
	for width := 1; width <= 7; width++ {
		for _, n := range []int{-1, -256, math.MinInt} {
			if got := impl.Fixed(n, width); got != "" {
				t.Errorf("Fixed(%d, %d) = %q", n, width, got)
			}
		}
	}
}

func TestReadFixedReadsBackWhateverFollows(t *testing.T) {
	for width := 1; width <= 7; width++ {
		for _, n := range someNumbers(1<<(8*width) - 1) {
			for _, tail := range tails {
				if got, ok := impl.ReadFixed(impl.Fixed(n, width)+tail, width); got != n || !ok {
					t.Errorf("ReadFixed of %d in %d bytes = %d %v", n, width, got, ok)
				}
			}
		}
	}
}

func TestReadFixedAcceptsWhatFixedWrites(t *testing.T) {
	stringsUpTo(allBytes(), 2, func(s string) {
		for width := 1; width <= 3; width++ {
			n, ok := impl.ReadFixed(s, width)
			if ok != (len(s) >= width) || ok && impl.Fixed(n, width) != s[:width] || !ok && n != 0 {
				t.Fatalf("ReadFixed(%q, %d) = %d %v", s, width, n, ok)
			}
		}
	})
}

func TestReadFixedRejectsShortStringsAndWidths(t *testing.T) {
	for width := 1; width <= 7; width++ {
		for size := range width {
			if n, ok := impl.ReadFixed(strings.Repeat("\xff", size), width); n != 0 || ok {
				t.Errorf("%d bytes, width %d: %d %v", size, width, n, ok)
			}
		}
	}
	for _, width := range []int{0, 8, 9, -1, math.MaxInt, math.MinInt} {
		for _, s := range []string{"", "abcdefghijkl"} {
			if n, ok := impl.ReadFixed(s, width); n != 0 || ok {
				t.Errorf("ReadFixed(%q, %d) = %d %v", s, width, n, ok)
			}
		}
	}
}

func TestVarExamplesAndLimits(t *testing.T) {
	for _, c := range []struct {
		n    int
		want string
	}{
		{0, "\x00"},
		{1, "\x01"},
		{127, "\x7f"},
		{128, "\x80\x01"},
		{300, "\xac\x02"},
		{16383, "\xff\x7f"},
		{16384, "\x80\x80\x01"},
		{impl.MaxVar, "\xff\xff\xff\xff\xff\xff\x7f"},
		{impl.MaxVar + 1, ""},
		{math.MaxInt, ""},
		{-1, ""},
		{-128, ""},
		{math.MinInt, ""},
	} {
		if got := impl.Var(c.n); got != c.want {
			t.Errorf("Var(%d) = %q, want %q", c.n, got, c.want)
		}
	}
	if impl.MaxVar != 1<<49-1 {
		t.Error("MaxVar", impl.MaxVar)
	}
}

func TestVarIsLeb128(t *testing.T) {
	for _, n := range someNumbers(impl.MaxVar) {
		if got := impl.Var(n); got != string(binary.AppendUvarint(nil, uint64(n))) {
			t.Errorf("Var(%d) = %q", n, got)
		}
	}
}

func TestReadVarReadsBackWhateverFollows(t *testing.T) {
	for _, n := range someNumbers(impl.MaxVar) {
		s := impl.Var(n)
		for _, tail := range tails {
			if got, size := impl.ReadVar(s + tail); got != n || size != len(s) {
				t.Errorf("ReadVar(%q) = %d %d, want %d %d", s+tail, got, size, n, len(s))
			}
		}
		for cut := range len(s) {
			if got, size := impl.ReadVar(s[:cut]); got != 0 || size != 0 {
				t.Errorf("ReadVar(%q) = %d %d", s[:cut], got, size)
			}
		}
	}
}

func TestReadVarRejectsSuperfluousBytes(t *testing.T) {
	for _, s := range []string{
		"",
		"\x80",
		"\x80\x00",
		"\x81\x00",
		"\xff\x00",
		"\x80\x80\x00",
		"\xac\x82\x00",
		"\x80\x00z",
		"\x80\x80\x80\x80\x80\x80\x00",
		"\xff\xff\xff\xff\xff\xff\x80\x00",
		"\x80\x80\x80\x80\x80\x80\x80\x01",
		"\xff\xff\xff\xff\xff\xff\xff\x7f",
		"\xff\xff\xff\xff\xff\xff\xff\xff\xff\x01",
		strings.Repeat("\x80", 100) + "\x01",
		strings.Repeat("\xff", 100),
	} {
		if n, size := impl.ReadVar(s); n != 0 || size != 0 {
			t.Errorf("ReadVar(%q) = %d %d", s, n, size)
		}
	}
	for _, n := range someNumbers(impl.MaxVar) {
		b := []byte(impl.Var(n))
		b[len(b)-1] += 128
		if got, size := impl.ReadVar(string(b) + "\x00"); got != 0 || size != 0 {
			t.Errorf("%d with a superfluous byte: %d %d", n, got, size)
		}
	}
}

func TestReadVarAcceptsNoOtherString(t *testing.T) {
	number := map[string]int{}
	for n := range 1 << 21 {
		if s := impl.Var(n); len(s) <= 2 || strings.Trim(s, "\x00\x01\x02\x7f\x80\x81\xfe\xff") == "" {
			number[s] = n
		}
	}
	check := func(s string) {
		wantN, wantSize := 0, 0
		for size := 1; size <= len(s); size++ {
			if n, ok := number[s[:size]]; ok {
				wantN, wantSize = n, size
			}
		}
		if n, size := impl.ReadVar(s); n != wantN || size != wantSize {
			t.Fatalf("ReadVar(%q) = %d %d, want %d %d", s, n, size, wantN, wantSize)
		}
	}
	stringsUpTo(allBytes(), 2, check)
	stringsUpTo("\x00\x01\x02\x7f\x80\x81\xfe\xff", 3, check)
}

func TestHexWritesTwoLowercaseDigits(t *testing.T) {
	for _, c := range []struct{ s, want string }{
		{"", ""},
		{"a\xff", "61ff"},
		{"\x00", "00"},
		{"\x0f\xf0", "0ff0"},
		{"é", "c3a9"},
	} {
		if got := impl.Hex(c.s); got != c.want {
			t.Errorf("Hex(%q) = %q, want %q", c.s, got, c.want)
		}
	}
	stringsUpTo(allBytes(), 2, func(s string) {
		h := impl.Hex(s)
		if h != hex.EncodeToString([]byte(s)) {
			t.Fatalf("Hex(%q) = %q", s, h)
		}
		if back, ok := impl.Unhex(h); back != s || !ok {
			t.Fatalf("Unhex(%q) = %q %v", h, back, ok)
		}
	})
}

func TestHexOfALongString(t *testing.T) {
	s := strings.Repeat(allBytes(), 4000)
	h := impl.Hex(s)
	if h != hex.EncodeToString([]byte(s)) {
		t.Error("hex")
	}
	if back, ok := impl.Unhex(h); back != s || !ok {
		t.Error("unhex")
	}
}

func TestUnhexAcceptsNoOtherString(t *testing.T) {
	source := map[string]string{"": ""}
	for _, b := range []byte(allBytes()) {
		source[hex.EncodeToString([]byte{b})] = string([]byte{b})
	}
	check := func(s string) {
		want, wantOk := source[s]
		if got, ok := impl.Unhex(s); got != want || ok != wantOk {
			t.Fatalf("Unhex(%q) = %q %v", s, got, ok)
		}
	}
	stringsUpTo(allBytes(), 2, check)
	for _, s := range []string{
		"6F", "FF", "6g", "g6", "6", "611", "61 1", " 61", "61\n", "0x61", "-1", "61ffF0", "61f", "61fg", "\x00\x00", "é",
	} {
		if got, ok := impl.Unhex(s); got != "" || ok {
			t.Errorf("Unhex(%q) = %q %v", s, got, ok)
		}
	}
}

func TestDecOfEveryInt(t *testing.T) {
	for _, c := range []struct {
		n    int
		want string
	}{
		{0, "0"},
		{7, "7"},
		{-7, "-7"},
		{10, "10"},
		{-120, "-120"},
		{999999999, "999999999"},
		{1000000000, "1000000000"},
		{math.MaxInt, "9223372036854775807"},
		{math.MinInt, "-9223372036854775808"},
		{math.MinInt + 1, "-9223372036854775807"},
	} {
		if got := impl.Dec(c.n); got != c.want {
			t.Errorf("Dec(%d) = %q, want %q", c.n, got, c.want)
		}
	}
	for _, n := range someNumbers(math.MaxInt) {
		for _, m := range []int{n, -n} {
			if got := impl.Dec(m); got != big.NewInt(int64(m)).String() {
				t.Errorf("Dec(%d) = %q", m, got)
			}
		}
	}
}

func TestReadDecReadsBackNineDigits(t *testing.T) {
	for _, n := range append(someNumbers(math.MaxInt), 999999998, 999999999, 1000000000, 100000000, 99999999) {
		for _, m := range []int{n, -n} {
			want, wantOk := m, true
			if n > 999999999 {
				want, wantOk = 0, false
			}
			if got, ok := impl.ReadDec(impl.Dec(m)); got != want || ok != wantOk {
				t.Errorf("ReadDec(%q) = %d %v", impl.Dec(m), got, ok)
			}
		}
	}
	if n, ok := impl.ReadDec(impl.Dec(math.MinInt)); n != 0 || ok {
		t.Error("least int", n, ok)
	}
}

func TestReadDecRejectsWhatDecDoesNotWrite(t *testing.T) {
	for _, s := range []string{
		"", "-", "--", "--7", "-0", "-00", "00", "07", "-07", "0000000007", "000000001",
		"+1", "+0", "-+1", "+-1", " 1", "1 ", "1\n", "1_0", "0x1", "1e3", "1.0", "a", "1a", "\x00", "\xff",
		"1000000000", "-1000000000", "9999999999", "9223372036854775807", "9223372036854775808",
		strings.Repeat("9", 1000), "-" + strings.Repeat("9", 1000), "٣",
	} {
		if n, ok := impl.ReadDec(s); n != 0 || ok {
			t.Errorf("ReadDec(%q) = %d %v", s, n, ok)
		}
	}
}

func TestReadDecAcceptsNoOtherString(t *testing.T) {
	number := map[string]int{}
	for n := -999; n <= 9999; n++ {
		number[fmt.Sprint(n)] = n
	}
	check := func(s string) {
		want, wantOk := number[s]
		if got, ok := impl.ReadDec(s); got != want || ok != wantOk {
			t.Fatalf("ReadDec(%q) = %d %v", s, got, ok)
		}
	}
	stringsUpTo("0123456789-+ _.x", 4, check)
	stringsUpTo(allBytes(), 2, check)
}
