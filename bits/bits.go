// Package bits is layer 1: numbers of so many bits. See doc/01-bits.md.
package bits

import (
	"strconv"
	"strings"

	"pointsman/api"
)

// wordBits is how many bits Lo has, and byteBits how many a byte has.
const (
	wordBits = 64
	byteBits = 8
)

// wordDigits is how many digits tell all bits of Lo.
const wordDigits = 16

// Of: a number of so many bits: what is above them is cut off. (P1.1)
func Of(w int, hi, lo uint64) (api.Bits, api.Errno) {
	if !widthMayBe(w) {
		return api.Bits{}, api.ErrArg
	}
	return cut(w, hi, lo), api.OK
}

// Check: may a number be? (P1.1)
func Check(b api.Bits) bool {
	return widthMayBe(b.W) && cut(b.W, b.Hi, b.Lo) == b
}

func widthMayBe(w int) bool { return 1 <= w && w <= api.MaxWidth }

// cut asks for a width that may be: a shift by a negative number would panic.
func cut(w int, hi, lo uint64) api.Bits {
	if w <= wordBits {
		return api.Bits{W: w, Lo: lo & lowest(w)}
	}
	return api.Bits{W: w, Hi: hi & lowest(w-wordBits), Lo: lo}
}

// lowest relies on a shift by 64 coming to 0, so that 64 bits are all of them.
func lowest(n int) uint64 { return uint64(1)<<n - 1 }

// Bytes: of a number, the highest first. (P1.3)
func Bytes(b api.Bits) ([]byte, api.Errno) {
	if !Check(b) {
		return nil, api.ErrArg
	}
	l := make([]byte, byteCount(b.W))
	for i := range l {
		_, lo := down(b.Hi, b.Lo, uint64(len(l)-1-i)*byteBits)
		l[i] = byte(lo)
	}
	return l, api.OK
}

// Read: a number of so many bits from such bytes. (P1.3)
func Read(w int, l []byte) (api.Bits, api.Errno) {
	if !widthMayBe(w) {
		return api.Bits{}, api.ErrArg
	}
	if len(l) != byteCount(w) {
		return api.Bits{}, api.ErrForm
	}
	b := api.Bits{W: w}
	for _, x := range l {
		b.Hi, b.Lo = up(b.Hi, b.Lo, byteBits)
		b.Lo |= uint64(x)
	}
	if !Check(b) {
		return api.Bits{}, api.ErrForm
	}
	return b, api.OK
}

func byteCount(w int) int { return (w + byteBits - 1) / byteBits }

// Text: of a number; Parse: back. (P1.4)
func Text(b api.Bits) (string, api.Errno) {
	if !Check(b) {
		return "", api.ErrArg
	}
	return strconv.Itoa(b.W) + "w" + digits(b.Hi, b.Lo), api.OK
}

func digits(hi, lo uint64) string {
	low := strconv.FormatUint(lo, 16)
	if hi == 0 {
		return low
	}
	return strconv.FormatUint(hi, 16) + strings.Repeat("0", wordDigits-len(low)) + low
}

// Parse: likewise.
func Parse(s string) (api.Bits, api.Errno) {
	b := guess(s)
	// The library reads more forms than the one that Text tells (signs, great letters, noughts ahead): only that one counts.
	if t, e := Text(b); e != api.OK || t != s {
		return api.Bits{}, api.ErrForm
	}
	return b, api.OK
}

// guess is the number that s tells if it tells one; of any other text it is whatever comes out, so the caller must hold it against s.
func guess(s string) api.Bits {
	width, value, _ := strings.Cut(s, "w")
	split := max(len(value)-wordDigits, 0)
	return api.Bits{
		W:  int(whole(width, 10)),
		Hi: whole(value[:split], 16),
		Lo: whole(value[split:], 16),
	}
}

// whole answers 0 for what is no number, as the empty part above 16 digits or fewer is.
func whole(s string, base int) uint64 {
	n, err := strconv.ParseUint(s, base, wordBits)
	if err != nil {
		return 0
	}
	return n
}
