package tests

import (
	"crypto/sha256"
	"strings"
	"testing"

	"loop.example/g00954/impl"
)

func checkSha(t *testing.T, s string) {
	t.Helper()
	sum := sha256.Sum256([]byte(s))
	want := string(sum[:])
	got := impl.Sha(s)
	if len(got) != 32 {
		t.Fatalf("Sha(%.60q) of %d bytes has %d bytes", s, len(s), len(got))
	}
	if got != want {
		t.Fatalf("Sha(%.60q) of %d bytes = %x, want %x", s, len(s), got, want)
	}
	if short := impl.Short(s); short != want[:8] {
		t.Fatalf("Short(%.60q) of %d bytes = %x, want %x", s, len(s), short, want[:8])
	}
}

// blockEnds are the lengths around which the padding changes: the last one at
// which a block still has room for it, and whole blocks.
var blockEnds = []int{0, 1, 54, 55, 56, 57, 63, 64, 65, 118, 119, 120, 121, 127, 128, 129, 183, 184, 191, 192, 193}

func TestShaKnownDigests(t *testing.T) {
	for _, c := range []struct{ s, want string }{
		{"", "e3b0c44298fc1c149afbf4c8996fb92427ae41e4649b934ca495991b7852b855"},
		{"abc", "ba7816bf8f01cfea414140de5dae2223b00361a396177a9cb410ff61f20015ad"},
		{"abcdbcdecdefdefgefghfghighijhijkijkljklmklmnlmnomnopnopq", "248d6a61d20638b8e5c026930c3e6039a33ce45964ff2167f6ecedd419db06c1"},
		{strings.Repeat("a", 55), "9f4390f8d30c2dd92ec9f095b65e2b9ae9b0a925a5258e241c9f1e910f734318"},
		{strings.Repeat("a", 56), "b35439a4ac6f0948b6d6f9e3c6af0f5f590ce20f1bde7090ef7970686ec6738a"},
		{strings.Repeat("a", 1000000), "cdc76e5c9914fb9281a1c7e284d73e67f1809a48a497200e046d39ccc7112cd0"},
	} {
		if got := impl.Hex(impl.Sha(c.s)); got != c.want {
			t.Errorf("Sha(%.60q) of %d bytes = %s, want %s", c.s, len(c.s), got, c.want)
		}
		if got := impl.Hex(impl.Short(c.s)); got != c.want[:16] {
			t.Errorf("Short(%.60q) of %d bytes = %s, want %s", c.s, len(c.s), got, c.want[:16])
		}
		checkSha(t, c.s)
	}
}

func TestShaAroundTheEndOfABlock(t *testing.T) {
	for _, size := range blockEnds {
		for _, one := range []string{"a", "\x00", "\x7f", "\x80", "\xff"} {
			checkSha(t, strings.Repeat(one, size))
		}
		for seed := range uint64(20) {
			checkSha(t, someBytes(seed, size))
		}
	}
}

func TestShaOfEveryLength(t *testing.T) {
	for size := range 700 {
		checkSha(t, strings.Repeat("a", size))
		checkSha(t, strings.Repeat("\xff", size))
		checkSha(t, someBytes(uint64(size), size))
	}
}

func TestShaOfLongStrings(t *testing.T) {
	for _, s := range []string{
		strings.Repeat(allBytes(), 400),
		strings.Repeat("😀é", 20001),
		strings.Repeat("\x80", 65537),
		someBytes(1, 1<<16-1),
		someBytes(2, 1<<16),
		someBytes(3, 1<<20+55),
		someBytes(4, 1<<20+56),
		// From here on, the length in bits takes more than three bytes.
		someBytes(5, 1<<21),
		someBytes(6, 1<<22+9),
	} {
		checkSha(t, s)
	}
}

func TestShaOfEveryByteAndPair(t *testing.T) {
	stringsUpTo(allBytes(), 2, func(s string) { checkSha(t, s) })
}

func TestShaCountsZeroBytes(t *testing.T) {
	for _, s := range []string{"", "a", "abc", "\x80", "\xff"} {
		seen := map[string]bool{}
		for zeros := range 140 {
			more := strings.Repeat("\x00", zeros)
			checkSha(t, more+s)
			checkSha(t, s+more)
			checkSha(t, s+more+s)
			seen[impl.Sha(s+more)] = true
		}
		if len(seen) != 140 {
			t.Errorf("%q with 0 to 139 zero bytes: %d digests", s, len(seen))
		}
	}
}

func TestShaTellsPaddingFromBytes(t *testing.T) {
	// What the padding appends to a string is part of a longer one, which
	// has another length and so another digest.
	for _, size := range blockEnds {
		s := someBytes(uint64(size), size)
		padded := s + "\x80"
		for len(padded)%64 != 56 {
			padded += "\x00"
		}
		padded += "\x00" + impl.Fixed(8*size, 7)
		checkSha(t, s)
		checkSha(t, s+"\x80")
		checkSha(t, padded)
		if impl.Sha(s) == impl.Sha(padded) || impl.Sha(s) == impl.Sha(s+"\x80") {
			t.Errorf("%d bytes have the digest of a longer string", size)
		}
	}
}

func TestShaTakesBytesAsTheyAre(t *testing.T) {
	stringsUpTo("\x00a\x7f\x80\xbf\xc3\xe2\xf0\xff", 4, func(s string) { checkSha(t, s) })
	seen := map[string]string{}
	// All of these are the replacement character to a reader of runes.
	for _, s := range []string{"\x80", "\xbf", "\xc0", "\xff", "\xef\xbf\xbd"} {
		checkSha(t, s)
		if before, ok := seen[impl.Sha(s)]; ok {
			t.Errorf("%q and %q have one digest", before, s)
		}
		seen[impl.Sha(s)] = s
	}
	for _, s := range []string{
		"é", "日本語", "a😀z", "\ufeffa", "\xc3(", "\xa9\xc3", "\xc0\x80", "\xe6\x97a", "\xed\xa0\x80", "\xf0\x9f\x98", "\xf4\x90\x80\x80", "é\xffé",
	} {
		for times := range 70 {
			checkSha(t, strings.Repeat(s, times))
		}
	}
}

func TestShaSeesEveryBit(t *testing.T) {
	for _, size := range []int{1, 55, 56, 64, 120} {
		s := someBytes(uint64(size)+30, size)
		digests := map[string]bool{impl.Sha(s): true}
		shorts := map[string]bool{impl.Short(s): true}
		for at := range size {
			for bit := range 8 {
				other := flipBit(s, at, bit)
				checkSha(t, other)
				digests[impl.Sha(other)] = true
				shorts[impl.Short(other)] = true
			}
		}
		if len(digests) != 8*size+1 || len(shorts) != 8*size+1 {
			t.Errorf("%d bytes: %d digests and %d short ones for %d strings", size, len(digests), len(shorts), 8*size+1)
		}
	}
}

func TestShortIsTheFirstEightBytes(t *testing.T) {
	for size := range 300 {
		s := someBytes(uint64(size)+500, size)
		short := impl.Short(s)
		if len(short) != 8 || short != impl.Sha(s)[:8] {
			t.Errorf("%d bytes: Short is %x, Sha is %x", size, short, impl.Sha(s))
		}
	}
}

func TestShaOfTheSameBytesIsTheSame(t *testing.T) {
	for size := range 150 {
		s := someBytes(uint64(size)+7, size)
		want, short := impl.Sha(s), impl.Short(s)
		long := "\xe6" + s + "\xa9z"
		for _, same := range []string{s, strings.Clone(s), string([]byte(s)), long[1 : 1+size], s} {
			// What was computed in between must not count.
			impl.Sha(long)
			impl.Short(long)
			checkSha(t, same)
			if impl.Sha(same) != want || impl.Short(same) != short {
				t.Fatalf("%q has two digests", s)
			}
		}
	}
}
