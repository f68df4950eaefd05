package cells

import (
	"slices"

	"pointsman/api"
	"pointsman/bits"
)

// wordBits is how wide the cells of counters and meters are.
const wordBits = 64

// maxTokens is the greatest Rate and the greatest Burst.
const maxTokens = 65535

// array is the given one, with what the calls ask of it.
type array struct{ api.Array }

// fresh is a declaration's array as it begins. It may be one that may not be, but cells are made for no more than an array has.
func fresh(d api.Decl) array {
	if !from(1, d.N, api.MaxCells) {
		return array{}
	}
	a := array{api.Array{Name: d.Name, Kind: d.Kind, W: wordBits, Rate: d.Rate, Burst: d.Burst}}
	var first uint64
	switch d.Kind {
	case api.DeRegister:
		a.W = d.W
	case api.DeCounter:
	case api.DeMeter:
		first = uint64(d.Burst)
		a.Last = make([]int, d.N)
	default:
		return array{}
	}
	a.Cells = slices.Repeat([]api.Bits{{W: a.W, Lo: first}}, d.N)
	return a
}

func (a array) mayBe() bool {
	return a.frameMayBe() && from(1, len(a.Cells), api.MaxCells) &&
		!slices.ContainsFunc(a.Cells, func(b api.Bits) bool { return !a.holds(b) })
}

// frameMayBe asks for all but the cells.
func (a array) frameMayBe() bool {
	switch a.Kind {
	case api.DeRegister:
		return from(1, a.W, api.MaxWidth) && a.isPlain()
	case api.DeCounter:
		return a.W == wordBits && a.isPlain()
	case api.DeMeter:
		return a.W == wordBits && from(0, a.Rate, maxTokens) && from(1, a.Burst, maxTokens) && a.ticksMayBe()
	}
	return false
}

// isPlain: it has nothing that only meters have.
func (a array) isPlain() bool { return a.Rate == 0 && a.Burst == 0 && len(a.Last) == 0 }

func (a array) ticksMayBe() bool {
	return len(a.Last) == len(a.Cells) && !slices.ContainsFunc(a.Last, func(n int) bool { return n < 0 })
}

// holds: may a number be in a cell? A meter's has no Hi, so that its Lo tells all of its tokens.
func (a array) holds(b api.Bits) bool {
	return b.W == a.W && bits.Check(b) && (a.Kind != api.DeMeter || b.Lo <= uint64(a.Burst))
}

// find is the place of the cell of a number, in an array that must be of that kind.
func (a array) find(kind api.DeclKind, i api.Bits) (int, api.Errno) {
	if a.Kind != kind || !a.mayBe() || !bits.Check(i) {
		return 0, api.ErrArg
	}
	if i.Hi != 0 || i.Lo >= uint64(len(a.Cells)) {
		return 0, api.ErrGone
	}
	return int(i.Lo), api.OK
}

// with has one cell that is another, and lists of its own: what was handed in must stay as it was.
func (a array) with(at int, b api.Bits) array {
	a.Cells = copied(a.Cells)
	a.Last = copied(a.Last)
	a.Cells[at] = b
	return a
}

func copied[T any](l []T) []T {
	if len(l) == 0 {
		return nil
	}
	out := make([]T, len(l))
	copy(out, l)
	return out
}

// tokens is how many a meter's cell has at a tick. No cell needs more ticks than Burst to be full, so those beyond are left out: all of them times Rate might wrap.
func (a array) tokens(at, now int) uint64 {
	ticks := min(max(now-a.Last[at], 0), a.Burst)
	return min(a.Cells[at].Lo+uint64(ticks)*uint64(a.Rate), uint64(a.Burst))
}

// word is a number as counters and meters have them.
func word(n uint64) api.Bits { return api.Bits{W: wordBits, Lo: n} }

// from asks for a number of least to most.
func from(least, n, most int) bool { return least <= n && n <= most }
