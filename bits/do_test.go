package bits_test

import (
	"math"
	"math/big"
	"testing"

	"pointsman/api"
	"pointsman/bits"
)

// alikeOps are the operations of two numbers of one width.
var alikeOps = []api.Op{api.OpAdd, api.OpSub, api.OpMul, api.OpAnd, api.OpOr, api.OpXor, api.OpEq, api.OpNe, api.OpLt, api.OpLe}

// pairOps are the operations that name b.
var pairOps = append([]api.Op{api.OpShl, api.OpShr, api.OpCat, api.OpBoth, api.OpAny}, alikeOps...)

// want is what whole numbers say of two numbers of one width.
func want(op api.Op, a, b api.Bits) api.Bits {
	x, y, v := value(a), value(b), new(big.Int)
	truth := map[api.Op]bool{api.OpEq: x.Cmp(y) == 0, api.OpNe: x.Cmp(y) != 0, api.OpLt: x.Cmp(y) < 0, api.OpLe: x.Cmp(y) <= 0}
	if holds, ok := truth[op]; ok {
		if holds {
			return num(1, 1)
		}
		return num(1, 0)
	}
	switch op {
	case api.OpAdd:
		v.Add(x, y)
	case api.OpSub:
		v.Sub(x, y)
	case api.OpMul:
		v.Mul(x, y)
	case api.OpAnd:
		v.And(x, y)
	case api.OpOr:
		v.Or(x, y)
	case api.OpXor:
		v.Xor(x, y)
	}
	return left(a.W, v)
}

// do is Do where it may not fail.
func do(t *testing.T, op api.Op, a, b api.Bits, n, m int) api.Bits {
	t.Helper()
	r, e := bits.Do(op, a, b, n, m)
	if e != api.OK || !bits.Check(r) {
		t.Fatalf("Do(%d, %v, %v, %d, %d) = %v, %d", op, a, b, n, m, r, e)
	}
	return r
}

// refuse: Do answers that error and nothing else.
func refuse(t *testing.T, op api.Op, a, b api.Bits, n, m int, want api.Errno) {
	t.Helper()
	if r, e := bits.Do(op, a, b, n, m); r != (api.Bits{}) || e != want {
		t.Errorf("Do(%d, %v, %v, %d, %d) = %v, %d; want error %d", op, a, b, n, m, r, e, want)
	}
}

func TestDoAlike(t *testing.T) { // P1.2
	for _, w := range widths {
		for _, a := range samples(w) {
			for _, b := range samples(w) {
				for _, op := range alikeOps {
					if r := do(t, op, a, b, 0, 0); r != want(op, a, b) {
						t.Errorf("Do(%d, %v, %v) = %v", op, a, b, r)
					}
				}
			}
		}
	}
}

func TestDoNot(t *testing.T) { // P1.2
	for w := 1; w <= api.MaxWidth; w++ {
		for _, a := range samples(w) {
			if r := do(t, api.OpNot, a, api.Bits{}, 0, 0); r != left(w, new(big.Int).Not(value(a))) {
				t.Errorf("Not %v = %v", a, r)
			}
		}
	}
}

func TestDoShifts(t *testing.T) { // P1.2
	for _, w := range widths {
		for _, a := range samples(w) {
			for k := range uint(260) {
				b := num(9, uint64(k))
				if r := do(t, api.OpShl, a, b, 0, 0); r != left(w, new(big.Int).Lsh(value(a), k)) {
					t.Errorf("Shl %v by %d = %v", a, k, r)
				}
				if r := do(t, api.OpShr, a, b, 0, 0); r != left(w, new(big.Int).Rsh(value(a), k)) {
					t.Errorf("Shr %v by %d = %v", a, k, r)
				}
			}
			for _, b := range []api.Bits{num(16, 1<<15), num(64, all), num(64, 1<<63), {W: 65, Hi: 1}, {W: 128, Hi: 1, Lo: 1}, {W: 128, Hi: all, Lo: all}, {W: 128, Hi: 1 << 63}} {
				for _, op := range []api.Op{api.OpShl, api.OpShr} {
					if r := do(t, op, a, b, 0, 0); r != num(w, 0) {
						t.Errorf("Do(%d, %v, %v) = %v", op, a, b, r)
					}
				}
			}
		}
	}
}

func TestDoCat(t *testing.T) { // P1.2
	for v := 1; v < api.MaxWidth; v++ {
		for _, w := range []int{1, 8, 63, 64, 65, 127, api.MaxWidth - v, api.MaxWidth - v + 1, api.MaxWidth} {
			a, b := left(v, big.NewInt(-3)), left(w, big.NewInt(-2))
			if v+w > api.MaxWidth {
				refuse(t, api.OpCat, a, b, 0, 0, api.ErrWidth)
				continue
			}
			sum := new(big.Int).Lsh(value(a), uint(w))
			if r := do(t, api.OpCat, a, b, 0, 0); r != left(v+w, sum.Add(sum, value(b))) {
				t.Errorf("Cat %v %v = %v", a, b, r)
			}
		}
	}
	refuse(t, api.OpCat, num(128, 1), num(1, 1), 0, 0, api.ErrWidth)
	refuse(t, api.OpCat, num(1, 1), num(128, 1), 0, 0, api.ErrWidth)
	refuse(t, api.OpCat, num(128, 1), num(128, 1), 0, 0, api.ErrWidth)
}

func TestDoSlice(t *testing.T) { // P1.2
	for _, w := range widths {
		a := samples(w)[len(samples(w))-1]
		for n := range w {
			for m := range n + 1 {
				if r := do(t, api.OpSlice, a, api.Bits{}, n, m); r != left(n-m+1, new(big.Int).Rsh(value(a), uint(m))) {
					t.Errorf("Slice %v %d %d = %v", a, n, m, r)
				}
			}
		}
		for _, c := range [][2]int{{w, 0}, {w, w}, {w + 1, w + 1}, {0, -1}, {-1, -1}, {-1, 0}, {0, 1}, {w - 1, w}, {math.MaxInt, 0}, {math.MaxInt, math.MaxInt}, {math.MinInt, math.MinInt}, {0, math.MinInt}, {math.MaxInt, math.MinInt}, {math.MinInt, 0}} {
			refuse(t, api.OpSlice, a, num(8, 1), c[0], c[1], api.ErrArg)
		}
	}
}

func TestDoCast(t *testing.T) { // P1.2
	for _, w := range widths {
		for _, a := range samples(w) {
			for n := 1; n <= api.MaxWidth; n++ {
				if r := do(t, api.OpCast, a, api.Bits{}, n, -5); r != left(n, value(a)) {
					t.Errorf("Cast %v %d = %v", a, n, r)
				}
			}
		}
		for _, n := range wrongWidths {
			refuse(t, api.OpCast, num(w, 1), num(8, 1), n, 0, api.ErrArg)
		}
	}
}

func TestDoOfSingleBits(t *testing.T) { // P1.2
	for a := range uint64(2) {
		for b := range uint64(2) {
			if r := do(t, api.OpBoth, num(1, a), num(1, b), 0, 0); r != num(1, a*b) {
				t.Errorf("Both %d %d = %v", a, b, r)
			}
			if r := do(t, api.OpAny, num(1, a), num(1, b), 0, 0); r != num(1, max(a, b)) {
				t.Errorf("Any %d %d = %v", a, b, r)
			}
		}
	}
	for _, op := range []api.Op{api.OpBoth, api.OpAny} {
		for _, c := range [][2]int{{2, 1}, {1, 2}, {2, 2}, {64, 64}, {1, 128}, {128, 1}} {
			refuse(t, op, num(c[0], 1), num(c[1], 1), 0, 0, api.ErrWidth)
		}
	}
}

func TestDoOtherWidths(t *testing.T) { // P1.2
	for _, op := range alikeOps {
		for _, v := range widths {
			for _, w := range widths {
				if v != w {
					refuse(t, op, num(v, 1), num(w, 1), 0, 0, api.ErrWidth)
				}
			}
		}
	}
}

// TestDoOtherOps: all that stand in no row, with numbers that would do.
func TestDoOtherOps(t *testing.T) { // P1.2
	rows := map[api.Op]int{api.OpNot: 0, api.OpSlice: 0, api.OpCast: 1} // with an n that does
	for _, op := range pairOps {
		rows[op] = 0
	}
	if len(rows) != 18 {
		t.Fatalf("%d rows", len(rows))
	}
	for i := range 256 {
		op := api.Op(i)
		if n, ok := rows[op]; ok {
			do(t, op, num(1, 1), num(1, 1), n, 0)
			continue
		}
		refuse(t, op, num(1, 1), num(1, 1), 0, 0, api.ErrArg)
		refuse(t, op, num(8, 1), num(4, 1), 1, 0, api.ErrArg)
	}
}

// TestDoNotNumbers: ErrArg comes ahead of ErrWidth; what a row does not name is not asked.
func TestDoNotNumbers(t *testing.T) { // P1.2
	for _, x := range notNumbers() {
		for _, op := range pairOps {
			for _, y := range []api.Bits{num(1, 1), num(8, 1), num(128, 1), x} {
				refuse(t, op, x, y, 0, 0, api.ErrArg)
				refuse(t, op, y, x, 0, 0, api.ErrArg)
			}
		}
		refuse(t, api.OpNot, x, num(8, 1), 0, 0, api.ErrArg)
		refuse(t, api.OpSlice, x, num(8, 1), 0, 0, api.ErrArg)
		refuse(t, api.OpCast, x, num(8, 1), 8, 0, api.ErrArg)
		if r := do(t, api.OpNot, num(8, 1), x, -1, 500); r != num(8, 254) {
			t.Errorf("Not with b %v = %v", x, r)
		}
		if r := do(t, api.OpSlice, num(8, 0xa5), x, 7, 4); r != num(4, 10) {
			t.Errorf("Slice with b %v = %v", x, r)
		}
		if r := do(t, api.OpCast, num(8, 0xa5), x, 4, math.MinInt); r != num(4, 5) {
			t.Errorf("Cast with b %v = %v", x, r)
		}
	}
	for _, op := range pairOps {
		if r := do(t, op, num(1, 1), num(1, 1), math.MinInt, math.MaxInt); r != do(t, op, num(1, 1), num(1, 1), 0, 0) {
			t.Errorf("Do(%d) asks for n or m: %v", op, r)
		}
	}
}

// TestDoHeldAlike: nothing of an earlier call is to be seen in a later one. (R5)
func TestDoHeldAlike(t *testing.T) {
	a, b := left(128, big.NewInt(-7)), num(128, 9)
	first := do(t, api.OpMul, a, b, 0, 0)
	refuse(t, api.OpMul, a, num(8, 9), 0, 0, api.ErrWidth)
	refuse(t, api.OpNone, a, b, 0, 0, api.ErrArg)
	if r := do(t, api.OpMul, a, b, 0, 0); r != first {
		t.Errorf("%v, then %v", first, r)
	}
}

func TestArithmeticLaws(t *testing.T) { // P1.5
	for _, w := range widths {
		l := samples(w)
		for i, a := range l {
			for j, b := range l {
				c := l[(i+2*j)%len(l)]
				sum := do(t, api.OpAdd, a, b, 0, 0)
				if r := do(t, api.OpSub, sum, b, 0, 0); r != a {
					t.Errorf("%v + %v - %v = %v", a, b, b, r)
				}
				shared := do(t, api.OpAdd, do(t, api.OpMul, a, c, 0, 0), do(t, api.OpMul, b, c, 0, 0), 0, 0)
				if r := do(t, api.OpMul, sum, c, 0, 0); r != shared {
					t.Errorf("(%v + %v) * %v = %v, %v", a, b, c, r, shared)
				}
				below, equal, above := do(t, api.OpLt, a, b, 0, 0), do(t, api.OpEq, a, b, 0, 0), do(t, api.OpLt, b, a, 0, 0)
				if below.Lo+equal.Lo+above.Lo != 1 {
					t.Errorf("%v and %v: below %v, equal %v, above %v", a, b, below, equal, above)
				}
				if do(t, api.OpLe, a, b, 0, 0) != do(t, api.OpAny, below, equal, 0, 0) || do(t, api.OpNe, a, b, 0, 0) == equal {
					t.Errorf("%v and %v: Le, Ne", a, b)
				}
			}
		}
	}
}

func TestSlicesMeet(t *testing.T) { // P1.5
	for _, w := range widths {
		for _, a := range samples(w) {
			for k := 1; k < w; k++ {
				high, low := do(t, api.OpSlice, a, api.Bits{}, w-1, k), do(t, api.OpSlice, a, api.Bits{}, k-1, 0)
				if r := do(t, api.OpCat, high, low, 0, 0); r != a {
					t.Errorf("%v cut at %d, put together: %v", a, k, r)
				}
			}
		}
	}
}

func TestMovedUpIsMul(t *testing.T) { // P1.5
	for _, w := range widths {
		for _, a := range samples(w) {
			for k := range 140 {
				power := left(w, new(big.Int).Lsh(big.NewInt(1), uint(k)))
				if do(t, api.OpShl, a, num(8, uint64(k)), 0, 0) != do(t, api.OpMul, a, power, 0, 0) {
					t.Errorf("%v moved up by %d is not Mul by %v", a, k, power)
				}
			}
		}
	}
}

// TestAnyArguments: every call ends and none panics, and beside an error there is nothing. (R1, R2)
func TestAnyArguments(t *testing.T) {
	odd := []api.Bits{{}, num(-1, 0), num(math.MinInt, all), num(math.MaxInt, all), num(129, 1), num(1, 2), {W: 64, Hi: 1}, {W: 128, Hi: all, Lo: all}, num(64, all), num(1, 1)}
	for op := range api.OpHash + 2 {
		for _, a := range odd {
			for _, b := range odd {
				for _, n := range []int{math.MinInt, -1, 0, 1, 63, 64, 127, 128, 129, math.MaxInt} {
					r, e := bits.Do(op, a, b, n, -n)
					if e == api.OK && !bits.Check(r) || e != api.OK && r != (api.Bits{}) {
						t.Fatalf("Do(%d, %v, %v, %d) = %v, %d", op, a, b, n, r, e)
					}
				}
			}
		}
	}
}

func BenchmarkDo(b *testing.B) {
	for b.Loop() {
		bits.Do(api.OpAdd, num(64, 3), num(64, 4), 0, 0)
	}
}
