package match

import (
	"math"

	"pointsman/api"
	"pointsman/bits"
)

// kind is what a kind of key asks. Whoever asks has asked already whether the match's Value is as wide as the key.
type kind struct {
	mayBe   func(m api.Match, w int) bool        // may a match of a key so wide be an entry's?
	matches func(m api.Match, key api.Bits) bool // it may be no entry's: a list is not asked whether its entries may be
}

func kinds() [api.KeRange + 1]kind {
	return [...]kind{
		api.KeExact: {
			mayBe:   func(m api.Match, _ int) bool { return m.Mask == api.Bits{} && m.Len == 0 },
			matches: func(m api.Match, key api.Bits) bool { return key == m.Value },
		},
		api.KePrefix: {
			mayBe:   func(m api.Match, w int) bool { return m.Mask == api.Bits{} && isPrefix(m, w) },
			matches: begins,
		},
		api.KeMask: {
			mayBe:   func(m api.Match, w int) bool { return isWide(m.Mask, w) && covers(m.Mask, m.Value) && m.Len == 0 },
			matches: func(m api.Match, key api.Bits) bool { return isWide(m.Mask, key.W) && alike(key, m.Value, m.Mask) },
		},
		api.KeRange: {
			mayBe:   func(m api.Match, w int) bool { return isWide(m.Mask, w) && atMost(m.Value, m.Mask) && m.Len == 0 },
			matches: lies,
		},
	}
}

// isPrefix asks for a Value that has no bits but its first ones.
func isPrefix(m api.Match, w int) bool {
	return from(0, m.Len, w) && covers(first(w, m.Len), m.Value)
}

// begins takes any Len: of one below 0, or above the key's width, there are no first bits that could be Value's.
func begins(m api.Match, key api.Bits) bool {
	return from(0, m.Len, key.W) && alike(key, m.Value, first(key.W, m.Len))
}

func lies(m api.Match, key api.Bits) bool {
	return isWide(m.Mask, key.W) && atMost(m.Value, key) && atMost(key, m.Mask)
}

// first has the first n of w bits. Where no bits are behind these, Of has no number of that width, and its zero value is just right.
func first(w, n int) api.Bits {
	all, _ := bits.Of(w, math.MaxUint64, math.MaxUint64)
	behind, _ := bits.Of(w-n, math.MaxUint64, math.MaxUint64)
	return api.Bits{W: w, Hi: all.Hi &^ behind.Hi, Lo: all.Lo &^ behind.Lo}
}

// covers: b has no bit that the mask has not.
func covers(mask, b api.Bits) bool { return b.Hi&^mask.Hi == 0 && b.Lo&^mask.Lo == 0 }

// alike: two numbers have the same bits where the mask has one.
func alike(a, b, mask api.Bits) bool {
	return (a.Hi^b.Hi)&mask.Hi == 0 && (a.Lo^b.Lo)&mask.Lo == 0
}

func atMost(a, b api.Bits) bool { return a.Hi < b.Hi || a.Hi == b.Hi && a.Lo <= b.Lo }
