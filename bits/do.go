package bits

import (
	word "math/bits"

	"pointsman/api"
)

// operation is a row of P1.2's table. Every row names a, so Do asks about that one; all else a row asks itself.
type operation func(a, b api.Bits, n, m int) (api.Bits, api.Errno)

// Do: an operation. (P1.2)
func Do(op api.Op, a, b api.Bits, n, m int) (api.Bits, api.Errno) {
	do, ok := operations()[op]
	if !ok || !Check(a) {
		return api.Bits{}, api.ErrArg
	}
	return do(a, b, n, m)
}

func operations() map[api.Op]operation {
	return map[api.Op]operation{
		api.OpAdd:   pair(alike, add),
		api.OpSub:   pair(alike, sub),
		api.OpMul:   pair(alike, mul),
		api.OpAnd:   pair(alike, and),
		api.OpOr:    pair(alike, or),
		api.OpXor:   pair(alike, xor),
		api.OpNot:   not,
		api.OpShl:   pair(anyWidths, moved(up)),
		api.OpShr:   pair(anyWidths, moved(down)),
		api.OpCat:   pair(together, cat),
		api.OpSlice: slice,
		api.OpCast:  cast,
		api.OpEq:    pair(alike, told(func(a, b api.Bits) bool { return a == b })),
		api.OpNe:    pair(alike, told(func(a, b api.Bits) bool { return a != b })),
		api.OpLt:    pair(alike, told(below)),
		api.OpLe:    pair(alike, told(func(a, b api.Bits) bool { return !below(b, a) })),
		api.OpBoth:  pair(single, and),
		api.OpAny:   pair(single, or),
	}
}

// pair is a row that names b: that b may be comes ahead of the widths, as P1.2 orders the errors.
func pair(fit func(v, w int) bool, number func(a, b api.Bits) api.Bits) operation {
	return func(a, b api.Bits, _, _ int) (api.Bits, api.Errno) {
		if !Check(b) {
			return api.Bits{}, api.ErrArg
		}
		if !fit(a.W, b.W) {
			return api.Bits{}, api.ErrWidth
		}
		return number(a, b), api.OK
	}
}

func alike(v, w int) bool { return v == w }

func anyWidths(_, _ int) bool { return true }

func together(v, w int) bool { return v+w <= api.MaxWidth }

func single(v, w int) bool { return v == 1 && w == 1 }

func add(a, b api.Bits) api.Bits {
	lo, carry := word.Add64(a.Lo, b.Lo, 0)
	return cut(a.W, a.Hi+b.Hi+carry, lo)
}

func sub(a, b api.Bits) api.Bits {
	lo, borrow := word.Sub64(a.Lo, b.Lo, 0)
	return cut(a.W, a.Hi-b.Hi-borrow, lo)
}

// mul leaves out a.Hi times b.Hi: that is at bit 128 and above, where no number has any.
func mul(a, b api.Bits) api.Bits {
	hi, lo := word.Mul64(a.Lo, b.Lo)
	return cut(a.W, hi+a.Hi*b.Lo+a.Lo*b.Hi, lo)
}

func and(a, b api.Bits) api.Bits { return api.Bits{W: a.W, Hi: a.Hi & b.Hi, Lo: a.Lo & b.Lo} }

func or(a, b api.Bits) api.Bits { return api.Bits{W: a.W, Hi: a.Hi | b.Hi, Lo: a.Lo | b.Lo} }

func xor(a, b api.Bits) api.Bits { return api.Bits{W: a.W, Hi: a.Hi ^ b.Hi, Lo: a.Lo ^ b.Lo} }

func not(a, _ api.Bits, _, _ int) (api.Bits, api.Errno) {
	return cut(a.W, ^a.Hi, ^a.Lo), api.OK
}

// moved by a value that needs more than Lo leaves nothing of a; a lesser one up and down can take as it is.
func moved(move func(hi, lo, k uint64) (uint64, uint64)) func(a, b api.Bits) api.Bits {
	return func(a, b api.Bits) api.Bits {
		if b.Hi != 0 {
			return api.Bits{W: a.W}
		}
		hi, lo := move(a.Hi, a.Lo, b.Lo)
		return cut(a.W, hi, lo)
	}
}

// up and down take any k: they rely on a shift by 64 and more coming to 0.
func up(hi, lo, k uint64) (uint64, uint64) {
	if k >= wordBits {
		return lo << (k - wordBits), 0
	}
	return hi<<k | lo>>(wordBits-k), lo << k
}

func down(hi, lo, k uint64) (uint64, uint64) {
	if k >= wordBits {
		return 0, hi >> (k - wordBits)
	}
	return hi >> k, lo>>k | hi<<(wordBits-k)
}

func cat(a, b api.Bits) api.Bits {
	hi, lo := up(a.Hi, a.Lo, uint64(b.W))
	return api.Bits{W: a.W + b.W, Hi: hi | b.Hi, Lo: lo | b.Lo}
}

func slice(a, _ api.Bits, n, m int) (api.Bits, api.Errno) {
	if m < 0 || m > n || n >= a.W {
		return api.Bits{}, api.ErrArg
	}
	hi, lo := down(a.Hi, a.Lo, uint64(m))
	return cut(n-m+1, hi, lo), api.OK
}

func cast(a, _ api.Bits, n, _ int) (api.Bits, api.Errno) {
	return Of(n, a.Hi, a.Lo)
}

func below(a, b api.Bits) bool {
	return a.Hi < b.Hi || a.Hi == b.Hi && a.Lo < b.Lo
}

// told makes a question's answer a number, 1 wide.
func told(holds func(a, b api.Bits) bool) func(a, b api.Bits) api.Bits {
	return func(a, b api.Bits) api.Bits {
		if holds(a, b) {
			return api.Bits{W: 1, Lo: 1}
		}
		return api.Bits{W: 1}
	}
}
