package cells_test

import (
	"math"
	"math/big"
	"testing"

	"pointsman/api"
	"pointsman/cells"
)

// next is r times the one number, and the other one, as whole numbers, of which 64 bits are left.
func next(r uint64) uint64 {
	n := new(big.Int).SetUint64(r)
	n.Mul(n, big.NewInt(6364136223846793005))
	n.Add(n, big.NewInt(1442695040888963407))
	return n.And(n, new(big.Int).SetUint64(all)).Uint64()
}

func TestRandom(t *testing.T) { // P14.4
	for _, r := range []uint64{0, 1, 2, 255, 1 << 32, 1<<63 - 1, 1 << 63, all - 1, all, 6364136223846793005, 1442695040888963407, 1876011003808476466} {
		s := next(r)
		for w := 1; w <= 128; w++ {
			if b, n := cells.Random(r, w); b != cut(w, s, next(s)) || n != next(s) {
				t.Errorf("Random(%d, %d) = %v, %d", r, w, b, n)
			}
		}
	}
	if b, n := cells.Random(0, 128); b != (api.Bits{W: 128, Hi: 1442695040888963407, Lo: 1876011003808476466}) || n != 1876011003808476466 {
		t.Errorf("Random(0, 128) = %v, %d", b, n)
	}
	if b, n := cells.Random(0, 8); b != num(8, 50) || n != 1876011003808476466 {
		t.Errorf("Random(0, 8) = %v, %d", b, n)
	}
}

func TestRandomOfNoWidth(t *testing.T) { // P14.4
	for _, w := range []int{0, -1, -64, 129, 130, 192, 256, math.MinInt, math.MaxInt} {
		for _, r := range []uint64{0, 1, 77, all} {
			if b, n := cells.Random(r, w); b != (api.Bits{}) || n != r {
				t.Errorf("Random(%d, %d) = %v, %d", r, w, b, n)
			}
		}
	}
}

// TestRandomOnAndOn: each number is made of what the one ahead left, and hangs on nothing else.
func TestRandomOnAndOn(t *testing.T) { // P14.4, R5
	r, want := uint64(1), uint64(1)
	for n := range 1000 {
		w := 1 + n%128
		s := next(want)
		want = next(s)
		var b api.Bits
		if b, r = cells.Random(r, w); b != cut(w, s, want) || r != want {
			t.Fatalf("number %d: %v, %d", n, b, r)
		}
	}
}
