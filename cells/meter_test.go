package cells_test

import (
	"math"
	"testing"

	"pointsman/api"
	"pointsman/cells"
)

// one is a meter of one cell.
func one(rate, burst int, tokens uint64, last int) api.Array {
	a := meter(rate, burst, tokens)
	a.Last[0] = last
	return a
}

func TestMeter(t *testing.T) { // P14.3
	for _, c := range []struct {
		a      api.Array
		now    int
		tokens uint64
		last   int
		said   uint64
	}{
		{one(3, 5, 0, 0), 1, 2, 1, 1}, {one(3, 5, 2, 1), 1, 1, 1, 1}, {one(3, 5, 1, 1), 1, 0, 1, 1}, {one(3, 5, 0, 1), 1, 0, 1, 0}, // the chapter's example
		{one(3, 5, 0, 0), 0, 0, 0, 0}, {one(3, 5, 5, 0), 0, 4, 0, 1},
		{one(3, 5, 2, 0), 1, 4, 1, 1}, {one(3, 5, 3, 0), 1, 4, 1, 1}, {one(3, 5, 1, 0), 1, 3, 1, 1}, // just full, above, below
		{one(3, 5, 5, 7), 9, 4, 9, 1}, {one(1, 5, 0, 7), 9, 1, 9, 1}, {one(2, 9, 1, 7), 10, 6, 10, 1},
		{one(3, 5, 0, 9), 8, 0, 9, 0}, {one(3, 5, 2, 9), 0, 1, 9, 1}, {one(3, 5, 2, math.MaxInt), 0, 1, math.MaxInt, 1}, // a tick that is over
		{one(0, 5, 0, 0), 100, 0, 100, 0}, {one(0, 5, 1, 0), math.MaxInt, 0, math.MaxInt, 1}, {one(0, 5, 0, 0), math.MaxInt, 0, math.MaxInt, 0}, // no rate
		{one(1, 1, 0, 0), 1, 0, 1, 1}, {one(1, 1, 1, 0), 5, 0, 5, 1}, {one(65535, 1, 0, 0), 1, 0, 1, 1},
		{one(65535, 65535, 65535, 0), 1, 65534, 1, 1}, {one(65535, 65535, 0, 0), 1, 65534, 1, 1}, {one(65534, 65535, 0, 0), 1, 65533, 1, 1}, {one(65534, 65535, 0, 0), 2, 65534, 2, 1},
		{one(1, 65535, 0, 0), 65534, 65533, 65534, 1}, {one(1, 65535, 0, 0), 65535, 65534, 65535, 1}, {one(1, 65535, 0, 0), 65536, 65534, 65536, 1}, {one(1, 65535, 1, 0), 65533, 65533, 65533, 1},
		{one(1, 65535, 0, math.MaxInt-2), math.MaxInt, 1, math.MaxInt, 1},
		// Rate times the ticks would wrap, to 0 among others.
		{one(65535, 65535, 0, 0), math.MaxInt, 65534, math.MaxInt, 1}, {one(2, 5, 0, 0), math.MaxInt, 4, math.MaxInt, 1}, {one(2, 5, 0, 0), 1 << 62, 4, 1 << 62, 1},
		{one(4, 5, 0, 0), 1 << 62, 4, 1 << 62, 1}, {one(32768, 5, 0, 0), 1 << 49, 4, 1 << 49, 1}, {one(1, 5, 5, 0), math.MaxInt, 4, math.MaxInt, 1}, {one(65535, 65535, 0, 0), 1 << 31, 65534, 1 << 31, 1},
	} {
		got, said, e := cells.Meter(c.a, num(1, 0), c.now)
		if e != api.OK || said != num(1, c.said) || !sameArray(got, one(c.a.Rate, c.a.Burst, c.tokens, c.last)) {
			t.Errorf("Meter(%v, %d) = %v, %v, %d; want %d tokens at %d, said %d", c.a, c.now, got, said, e, c.tokens, c.last, c.said)
		}
	}
}

// TestMeterBeside: the cells beside the one that is asked stay as they are.
func TestMeterBeside(t *testing.T) { // P14.3
	for at := range 3 {
		a := meter(2, 9, 0, 3, 9)
		a.Last = []int{4, 2, 6}
		got, _, e := cells.Meter(a, num(7, uint64(at)), 5)
		want := meter(2, 9, 0, 3, 9)
		want.Last = []int{4, 2, 6}
		want.Cells[at] = word([]uint64{1, 8, 8}[at])
		want.Last[at] = []int{5, 5, 6}[at]
		if e != api.OK || !sameArray(got, want) {
			t.Errorf("Meter at %d = %v, %d", at, got, e)
		}
	}
}

func TestMeterRefuses(t *testing.T) { // P14.3
	for _, now := range []int{-1, -2, math.MinInt} {
		for _, i := range []api.Bits{num(1, 0), num(8, 200)} { // ErrArg ahead of ErrGone
			if a, said, e := cells.Meter(meter(3, 5, 5), i, now); e != api.ErrArg || !isNoArray(a) || said != (api.Bits{}) {
				t.Errorf("Meter at the tick %d = %v, %v, %d", now, a, said, e)
			}
		}
	}
}

// TestMeterRuns counts what a cell gives over many ticks: what it had, and what came, but for what it had no room for.
func TestMeterRuns(t *testing.T) { // P14.3
	for _, c := range []struct{ rate, burst, asked, given int }{
		{3, 5, 3, 300}, {3, 5, 4, 302}, {3, 5, 9, 302}, {0, 5, 2, 5}, {7, 5, 9, 500}, {1, 1, 1, 100}, {2, 65535, 1, 100},
	} {
		a := meter(c.rate, c.burst, uint64(c.burst))
		given := 0
		for now := range 100 {
			for range c.asked {
				b, said, e := cells.Meter(a, num(1, 0), now)
				if e != api.OK || !cells.Check([]api.Array{b}) {
					t.Fatalf("Meter(%v, %d) = %v, %d", a, now, b, e)
				}
				given += int(said.Lo)
				a = b
			}
		}
		if given != c.given {
			t.Errorf("%+v: %d", c, given)
		}
	}
}
