package tests

import (
	"hash/crc32"
	"strings"
	"testing"

	"loop.example/g00954/impl"
)

// crcBitByBit computes the checksum as chapter 2 describes it.
func crcBitByBit(s string) int {
	c := 4294967295
	for i := 0; i < len(s); i++ {
		c ^= int(s[i])
		for range 8 {
			out := c & 1
			c >>= 1
			if out == 1 {
				c ^= 2197175160
			}
		}
	}
	return 4294967295 - c
}

func checkCrc(t *testing.T, s string) {
	t.Helper()
	if got, want := impl.Crc(s), crcBitByBit(s); got != want {
		t.Fatalf("Crc(%.60q) of %d bytes = %d, want %d", s, len(s), got, want)
	}
}

// someBytes are size bytes of any value, always the same ones for one seed.
func someBytes(seed uint64, size int) string {
	x := seed*2685821657736338717 + 88172645463325252
	b := make([]byte, size)
	for i := range b {
		x ^= x << 13
		x ^= x >> 7
		x ^= x << 17
		b[i] = byte(x >> 32)
	}
	return string(b)
}

func flipBit(s string, at int, bit int) string {
	b := []byte(s)
	b[at] ^= 1 << bit
	return string(b)
}

func TestCrcKnownValues(t *testing.T) {
	ascending, descending := make([]byte, 32), make([]byte, 32)
	for i := range 32 {
		ascending[i], descending[i] = byte(i), byte(31-i)
	}
	for _, c := range []struct {
		s    string
		want int
	}{
		{"123456789", 3808858755},
		{"", 0},
		{"\x00", 0x527d5351},
		{"a", 0xc1d04330},
		{"\xff", 0xff000000},
		{"\xff\xff\xff\xff", 0xffffffff},
		{strings.Repeat("\x00", 32), 0x8a9136aa},
		{strings.Repeat("\xff", 32), 0x62a8ab43},
		{string(ascending), 0x46dd794e},
		{string(descending), 0x113fdb5c},
	} {
		if got := impl.Crc(c.s); got != c.want {
			t.Errorf("Crc(%q) = %#x, want %#x", c.s, got, c.want)
		}
	}
}

func TestCrcOfEveryByteAndPair(t *testing.T) {
	seen := map[int]string{}
	stringsUpTo(allBytes(), 2, func(s string) {
		checkCrc(t, s)
		if before, ok := seen[impl.Crc(s)]; ok && len(before) == len(s) {
			t.Fatalf("%q and %q have one checksum", before, s)
		}
		seen[impl.Crc(s)] = s
	})
}

func TestCrcCountsEachByteByItself(t *testing.T) {
	// Every kind of byte that UTF-8 tells apart, in every order.
	stringsUpTo("\x00a\x7f\x80\xbf\xc3\xe2\xed\xf0\xff", 4, func(s string) { checkCrc(t, s) })
	for _, s := range []string{
		"é", "aéb", "日本語", "😀", "a😀z", "\ufeffa", "\ufffd", "a\ufffdb",
		"\x80", "\xc3", "\xc3(", "\xa9\xc3", "\xc0\x80", "\xe6\x97", "\xe6\x97a", "a\xe6", "\xed\xa0\x80",
		"\xf0\x9f\x98", "\xf0\x9f\x98\x80\x80", "\xf4\x90\x80\x80", "\xf8\x88\x80\x80\x80", "\xff\xfe\xfd", "é\xffé",
	} {
		checkCrc(t, s)
	}
	// All of these are the replacement character to a reader of runes.
	seen := map[int]string{}
	for _, s := range []string{"\x80", "\xbf", "\xc0", "\xff", "\xef\xbf\xbd"} {
		if before, ok := seen[impl.Crc(s)]; ok {
			t.Errorf("%q and %q have one checksum", before, s)
		}
		seen[impl.Crc(s)] = s
	}
}

func TestCrcDependsOnTheOrder(t *testing.T) {
	for _, c := range []struct{ a, b string }{
		{"ab", "ba"}, {"a\x00", "\x00a"}, {"\xc3\xa9", "\xa9\xc3"}, {"\x80\xff", "\xff\x80"}, {"éa", "aé"},
	} {
		checkCrc(t, c.a)
		checkCrc(t, c.b)
		if impl.Crc(c.a) == impl.Crc(c.b) {
			t.Errorf("%q and %q have one checksum", c.a, c.b)
		}
	}
}

func TestCrcCountsZeroBytes(t *testing.T) {
	for _, s := range []string{"", "a", "123456789", "é", "\xff", "\x80"} {
		// Each side by itself: a checksum of 32 bits may be that of two
		// strings, as it is of "\x00\x00\x00\xff" and "\xff\x00\x00\x00\x00".
		before, after := map[int]bool{}, map[int]bool{}
		for zeros := range 70 {
			more := strings.Repeat("\x00", zeros)
			checkCrc(t, more+s)
			checkCrc(t, s+more)
			before[impl.Crc(more+s)] = true
			after[impl.Crc(s+more)] = true
		}
		if len(before) != 70 || len(after) != 70 {
			t.Errorf("%q with zero bytes: %d checksums with them before, %d after", s, len(before), len(after))
		}
	}
}

func TestCrcOfLongStrings(t *testing.T) {
	for size := range 300 {
		checkCrc(t, someBytes(uint64(size), size))
	}
	for _, s := range []string{
		strings.Repeat(allBytes(), 400),
		strings.Repeat("a", 1<<17),
		strings.Repeat("😀é", 20001),
		strings.Repeat("\x80", 65537),
		someBytes(9, 1<<17+1),
	} {
		checkCrc(t, s)
	}
	s := someBytes(5, 1<<22)
	if got, want := impl.Crc(s), int(crc32.Checksum([]byte(s), crc32.MakeTable(crc32.Castagnoli))); got != want {
		t.Errorf("4 MiB: %d, want %d", got, want)
	}
}

func TestCrcSeesTheLastBit(t *testing.T) {
	for _, s := range []string{
		"\x00", "\xff", "a", "b", "123456789", "é", "\x80", "a\x00", "\x00\x00", "\xc3\xa8", someBytes(1, 60), someBytes(2, 4097),
	} {
		for _, at := range []int{0, len(s) - 1} {
			for _, bit := range []int{0, 7} {
				other := flipBit(s, at, bit)
				checkCrc(t, s)
				checkCrc(t, other)
				if impl.Crc(s) == impl.Crc(other) {
					t.Errorf("bit %d of byte %d of %.40q makes no difference", bit, at, s)
				}
			}
		}
	}
}

func TestCrcSeesEveryBit(t *testing.T) {
	for size := 1; size <= 40; size++ {
		s := someBytes(uint64(size), size)
		seen := map[int]bool{impl.Crc(s): true}
		for at := range size {
			for bit := range 8 {
				seen[impl.Crc(flipBit(s, at, bit))] = true
			}
		}
		if len(seen) != 8*size+1 {
			t.Errorf("%d bytes: %d checksums for %d strings", size, len(seen), 8*size+1)
		}
	}
}

func TestCrcHas32Bits(t *testing.T) {
	high := false
	for size := range 200 {
		c := impl.Crc(someBytes(uint64(size)+1000, size))
		if c < 0 || c > 4294967295 {
			t.Errorf("%d bytes: %d", size, c)
		}
		high = high || c >= 1<<31
	}
	if !high {
		t.Error("no checksum has the highest bit")
	}
}

func TestCrcOfTheSameBytesIsTheSame(t *testing.T) {
	for size := range 100 {
		s := someBytes(uint64(size)+7, size)
		want := crcBitByBit(s)
		long := "\xe6" + s + "\xa9z"
		joined := ""
		for i := range len(s) {
			joined += s[i : i+1]
		}
		for _, same := range []string{s, strings.Clone(s), string([]byte(s)), long[1 : 1+size], joined, s} {
			// What was computed in between must not count.
			impl.Crc(long)
			if got := impl.Crc(same); got != want {
				t.Fatalf("%q: %d, want %d", s, got, want)
			}
		}
	}
}
