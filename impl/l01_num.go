package impl

import (
	"strconv"
	"strings"
)

const MaxVar = 562949953421311

// Seven bytes keep every encoded number far from the sign bit, and seven
// groups of seven bits reach exactly up to MaxVar.
const maxFixedLen = 7
const maxVarLen = 7

const maxDecDigits = 9

const hexDigits = "0123456789abcdef"

func Fixed(n int, width int) string {
	if !widthOk(width) || n < 0 || n>>(8*width) != 0 {
		return ""
	}
	room := make([]byte, width)
	at := 0
	for shift := 8 * (width - 1); shift >= 0; shift -= 8 {
		at = putBytes(room, at, byte(n>>shift))
	}
	return string(room)
}

func ReadFixed(s string, width int) (int, bool) {
	if !widthOk(width) || len(s) < width {
		return 0, false
	}
	n := 0
	for i := range width {
		n = n<<8 | int(s[i])
	}
	return n, true
}

func Var(n int) string {
	if n < 0 || n > MaxVar {
		return ""
	}
	room := make([]byte, maxVarLen)
	at := 0
	for n >= 128 {
		at = putBytes(room, at, byte(n%128+128))
		n /= 128
	}
	at = putBytes(room, at, byte(n))
	return string(room[:at])
}

func ReadVar(s string) (int, int) {
	n := 0
	for i := range min(len(s), maxVarLen) {
		group := int(s[i])
		n |= (group % 128) << (7 * i)
		if group >= 128 {
			continue
		}
		// A last group of zero adds nothing to the ones before it, so Var
		// writes it only as the single byte of the number 0.
		if group == 0 && i > 0 {
			return 0, 0
		}
		return n, i + 1
	}
	return 0, 0
}

func Hex(s string) string {
	room := make([]byte, 2*len(s))
	at := 0
	for i := range len(s) {
		at = putBytes(room, at, hexDigits[s[i]>>4], hexDigits[s[i]&15])
	}
	return string(room)
}

func Unhex(s string) (string, bool) {
	if len(s)%2 != 0 {
		return "", false
	}
	room := make([]byte, len(s)/2)
	at := 0
	for i := 0; i < len(s); i += 2 {
		high := strings.IndexByte(hexDigits, s[i])
		low := strings.IndexByte(hexDigits, s[i+1])
		if high < 0 || low < 0 {
			return "", false
		}
		at = putBytes(room, at, byte(high<<4|low))
	}
	return string(room), true
}

func Dec(n int) string {
	return strconv.Itoa(n)
}

func ReadDec(s string) (int, bool) {
	if len(strings.TrimPrefix(s, "-")) > maxDecDigits {
		return 0, false
	}
	n, err := strconv.Atoi(s)
	// Atoi also takes leading zeros, "-0" and a plus sign, which Dec never writes.
	if err != nil || Dec(n) != s {
		return 0, false
	}
	return n, true
}

func widthOk(width int) bool {
	return width >= 1 && width <= maxFixedLen
}

// putBytes fills room that is already made: a long string is then encoded
// without copying what was written before.
func putBytes(room []byte, at int, more ...byte) int {
	return at + copy(room[at:], more)
}
