package cells_test

import (
	"fmt"
	"math"
	"slices"
	"testing"

	"pointsman/api"
	"pointsman/cells"
	"pointsman/parse"
)

const all = math.MaxUint64

func num(w int, lo uint64) api.Bits { return api.Bits{W: w, Lo: lo} }

func word(n uint64) api.Bits { return num(64, n) }

func words(l ...uint64) []api.Bits {
	var out []api.Bits
	for _, n := range l {
		out = append(out, word(n))
	}
	return out
}

func register(w int, l ...uint64) api.Array {
	a := api.Array{Name: "r", Kind: api.DeRegister, W: w}
	for _, n := range l {
		a.Cells = append(a.Cells, num(w, n))
	}
	return a
}

func counter(l ...uint64) api.Array {
	return api.Array{Name: "c", Kind: api.DeCounter, W: 64, Cells: words(l...)}
}

// meter has ticks of 0.
func meter(rate, burst int, l ...uint64) api.Array {
	return api.Array{Name: "m", Kind: api.DeMeter, W: 64, Rate: rate, Burst: burst, Cells: words(l...), Last: make([]int, len(l))}
}

// notNumbers are such as may not be.
func notNumbers() []api.Bits {
	return []api.Bits{
		{}, num(0, 1), num(-1, 0), num(129, 0), num(math.MinInt, 0), num(math.MaxInt, 0), num(1, 2), num(4, 16), num(63, 1<<63),
		{W: 64, Hi: 1}, {W: 1, Hi: 1}, {W: 65, Hi: 2}, {W: 127, Hi: 1 << 63, Lo: 1}, {W: 8, Hi: all, Lo: all},
	}
}

// otherKinds are those of no array.
func otherKinds() []api.DeclKind {
	var l []api.DeclKind
	for k := range 256 {
		if k != int(api.DeRegister) && k != int(api.DeCounter) && k != int(api.DeMeter) {
			l = append(l, api.DeclKind(k))
		}
	}
	return l
}

// sameArray: empty lists and none are alike.
func sameArray(a, b api.Array) bool {
	return a.Name == b.Name && a.Kind == b.Kind && a.W == b.W && a.Rate == b.Rate && a.Burst == b.Burst &&
		slices.Equal(a.Cells, b.Cells) && slices.Equal(a.Last, b.Last)
}

func sameArrays(a, b []api.Array) bool { return slices.EqualFunc(a, b, sameArray) }

func isNoArray(a api.Array) bool { return sameArray(a, api.Array{}) }

func TestNew(t *testing.T) { // P14.1
	p, _, e := parse.Parse("header h { a 8; } counter c 2; register r 5 3; control { drop; } meter m 1 3 5; register q 128 1; meter n 2 0 65535;")
	if e != api.OK {
		t.Fatal(e)
	}
	want := []api.Array{
		{Name: "c", Kind: api.DeCounter, W: 64, Cells: words(0, 0)},
		{Name: "r", Kind: api.DeRegister, W: 5, Cells: []api.Bits{num(5, 0), num(5, 0), num(5, 0)}},
		{Name: "m", Kind: api.DeMeter, W: 64, Rate: 3, Burst: 5, Cells: words(5), Last: []int{0}},
		{Name: "q", Kind: api.DeRegister, W: 128, Cells: []api.Bits{num(128, 0)}},
		{Name: "n", Kind: api.DeMeter, W: 64, Burst: 65535, Cells: words(65535, 65535), Last: []int{0, 0}},
	}
	if got := cells.New(p); !sameArrays(got, want) || !cells.Check(got) {
		t.Errorf("New = %+v", got)
	}
	if got := cells.New(nil); len(got) != 0 {
		t.Errorf("New(nil) = %+v", got)
	}
}

// decl may be an array's.
func decl(kind api.DeclKind) api.Decl {
	d := api.Decl{Kind: kind, Name: "x", N: 2}
	switch kind {
	case api.DeRegister:
		d.W = 8
	case api.DeMeter:
		d.Rate, d.Burst = 3, 5
	}
	return d
}

// TestNewBounds goes to each bound of a declaration from both sides; those around it have their arrays in any case.
func TestNewBounds(t *testing.T) { // P14.1
	type change func(d *api.Decl)
	n := func(n int) change { return func(d *api.Decl) { d.N = n } }
	w := func(n int) change { return func(d *api.Decl) { d.W = n } }
	rate := func(n int) change { return func(d *api.Decl) { d.Rate = n } }
	burst := func(n int) change { return func(d *api.Decl) { d.Burst = n } }
	name := func(d *api.Decl) { d.Name = "" }
	for _, c := range []struct {
		kind   api.DeclKind
		change change
		there  bool
	}{
		{api.DeRegister, n(1), true}, {api.DeRegister, n(4096), true}, {api.DeRegister, n(0), false}, {api.DeRegister, n(4097), false}, {api.DeRegister, n(-1), false},
		{api.DeRegister, n(math.MinInt), false}, {api.DeRegister, n(math.MaxInt), false},
		{api.DeRegister, w(1), true}, {api.DeRegister, w(128), true}, {api.DeRegister, w(0), false}, {api.DeRegister, w(129), false}, {api.DeRegister, w(-8), false},
		{api.DeRegister, w(math.MinInt), false}, {api.DeRegister, w(math.MaxInt), false},
		{api.DeRegister, rate(1), false}, {api.DeRegister, rate(-1), false}, {api.DeRegister, burst(1), false}, {api.DeRegister, burst(-1), false}, {api.DeRegister, name, true},
		{api.DeCounter, n(1), true}, {api.DeCounter, n(4096), true}, {api.DeCounter, n(0), false}, {api.DeCounter, n(4097), false}, {api.DeCounter, n(math.MaxInt), false},
		{api.DeCounter, w(64), true}, {api.DeCounter, w(8), true}, {api.DeCounter, w(-1), true}, {api.DeCounter, rate(1), false}, {api.DeCounter, burst(1), false}, {api.DeCounter, name, true},
		{api.DeMeter, n(1), true}, {api.DeMeter, n(4096), true}, {api.DeMeter, n(0), false}, {api.DeMeter, n(4097), false}, {api.DeMeter, n(math.MinInt), false},
		{api.DeMeter, w(64), true}, {api.DeMeter, w(1), true},
		{api.DeMeter, rate(0), true}, {api.DeMeter, rate(65535), true}, {api.DeMeter, rate(-1), false}, {api.DeMeter, rate(65536), false}, {api.DeMeter, rate(math.MaxInt), false},
		{api.DeMeter, burst(1), true}, {api.DeMeter, burst(65535), true}, {api.DeMeter, burst(0), false}, {api.DeMeter, burst(-1), false}, {api.DeMeter, burst(65536), false},
		{api.DeMeter, burst(math.MinInt), false}, {api.DeMeter, burst(math.MaxInt), false}, {api.DeMeter, name, true},
	} {
		d := decl(c.kind)
		c.change(&d)
		p := api.Program{decl(api.DeCounter), d, decl(api.DeMeter)}
		got, want := cells.New(p), modelNew(p)
		if !sameArrays(got, want) || (len(got) == 3) != c.there || !cells.Check(got) {
			t.Errorf("New of %+v: %d arrays", d, len(got))
		}
	}
	for _, k := range otherKinds() {
		for _, d := range []api.Decl{{Kind: k, Name: "x", N: 2, W: 64}, {Kind: k, Name: "x", N: 2, W: 64, Rate: 3, Burst: 5}} {
			if got := cells.New(api.Program{d, decl(api.DeRegister)}); len(got) != 1 || got[0].Kind != api.DeRegister {
				t.Errorf("New of the kind %d: %+v", k, got)
			}
		}
	}
}

// TestCheck goes to each bound of the section 'Words' from both sides, with good arrays ahead and behind.
func TestCheck(t *testing.T) { // P14.1
	type change func(a *api.Array)
	w := func(n int) change { return func(a *api.Array) { a.W = n } }
	rate := func(n int) change { return func(a *api.Array) { a.Rate = n } }
	burst := func(n int) change { return func(a *api.Array) { a.Burst = n } }
	last := func(l ...int) change { return func(a *api.Array) { a.Last = l } }
	cell := func(b api.Bits) change { return func(a *api.Array) { a.Cells[1] = b } }
	many := func(n int) change {
		return func(a *api.Array) {
			a.Cells = slices.Repeat(a.Cells[:1], n)
			if a.Kind == api.DeMeter {
				a.Last = make([]int, n)
			}
		}
	}
	kind := func(k api.DeclKind) change { return func(a *api.Array) { a.Kind = k } }
	nothing := func(*api.Array) {}
	r, c, m := func() api.Array { return register(8, 1, 2) }, func() api.Array { return counter(1, 2) }, func() api.Array { return meter(3, 5, 0, 5) }
	wide := func() api.Array { return register(128, 1, 2) }
	whole := func() api.Array { return register(64, 1, 2) }
	one := func() api.Array { return register(1, 0, 1) }
	for n, x := range []struct {
		of     func() api.Array
		change change
		want   bool
	}{
		{r, nothing, true}, {c, nothing, true}, {m, nothing, true}, {wide, nothing, true}, {one, nothing, true},
		{r, func(a *api.Array) { a.Name = "" }, true}, {r, many(0), false}, {r, many(1), true}, {r, many(4096), true}, {r, many(4097), false},
		{c, many(0), false}, {c, many(1), true}, {c, many(4096), true}, {c, many(4097), false},
		{m, many(0), false}, {m, many(1), true}, {m, many(4096), true}, {m, many(4097), false},
		{r, w(7), false}, {r, w(9), false}, {r, w(0), false}, {r, w(-1), false}, {r, w(129), false}, {wide, w(129), false}, {wide, w(127), false}, {wide, w(math.MaxInt), false},
		{r, cell(num(8, 255)), true}, {r, cell(num(8, 256)), false}, {r, cell(num(7, 1)), false}, {r, cell(num(9, 1)), false}, {r, cell(api.Bits{W: 8, Hi: 1}), false}, {r, cell(api.Bits{}), false},
		{wide, cell(api.Bits{W: 128, Hi: all, Lo: all}), true}, {wide, cell(num(127, 1)), false}, {one, cell(num(1, 2)), false},
		{r, rate(1), false}, {r, rate(-1), false}, {r, burst(1), false}, {r, burst(-1), false}, {r, last(0), false}, {r, last(0, 0), false}, {r, last([]int{}...), true},
		{c, w(63), false}, {c, w(65), false}, {c, w(0), false}, {c, rate(1), false}, {c, rate(-1), false}, {c, burst(1), false}, {c, last(0), false}, {c, last(0, 0), false}, {c, last([]int{}...), true},
		{c, cell(word(all)), true}, {c, cell(api.Bits{W: 64, Hi: 1}), false}, {c, cell(num(63, 1)), false}, {c, cell(num(65, 1)), false}, {c, cell(num(8, 1)), false},
		{m, w(63), false}, {m, w(65), false}, {m, w(8), false}, {m, rate(0), true}, {m, rate(65535), true}, {m, rate(-1), false}, {m, rate(65536), false}, {m, rate(math.MinInt), false},
		{m, burst(5), true}, {m, burst(4), false}, {m, burst(65535), true}, {m, burst(65536), false}, {m, burst(0), false}, {m, burst(-1), false}, {m, burst(math.MaxInt), false}, {m, burst(math.MinInt), false},
		{m, cell(word(0)), true}, {m, cell(word(4)), true}, {m, cell(word(6)), false}, {m, cell(word(all)), false}, {m, cell(api.Bits{W: 64, Hi: 1}), false}, {m, cell(num(63, 1)), false}, {m, cell(num(65, 1)), false},
		{m, last(), false}, {m, last(0), false}, {m, last(0, 0, 0), false}, {m, last(0, math.MaxInt), true}, {m, last(1, 0), true}, {m, last(0, -1), false}, {m, last(-1, 0), false}, {m, last(math.MinInt, 0), false},
		{whole, kind(api.DeCounter), true}, {c, kind(api.DeRegister), true}, {c, kind(api.DeMeter), false}, {m, kind(api.DeCounter), false}, {m, kind(api.DeRegister), false}, {r, kind(api.DeCounter), false},
	} {
		a := x.of()
		x.change(&a)
		good := []api.Array{register(8, 1), counter(1), meter(1, 1, 1)}
		for at := range 4 {
			if l := slices.Insert(slices.Clone(good), at, a); cells.Check(l) != x.want {
				t.Errorf("row %d: Check(%d arrays, at %d %.200s) = %v", n, len(l), at, fmt.Sprint(a), !x.want)
			}
		}
		if got := cells.Check([]api.Array{a, a}); got != x.want {
			t.Errorf("row %d: Check(%.200s) = %v", n, fmt.Sprint(a), got)
		}
	}
	if !cells.Check(nil) || !cells.Check([]api.Array{}) || cells.Check([]api.Array{{}}) {
		t.Error("Check of no arrays, or of one that is none")
	}
}

func TestCheckKinds(t *testing.T) { // P14.1
	for _, k := range otherKinds() {
		for _, a := range []api.Array{register(64, 1), counter(1), meter(3, 5, 1)} {
			a.Kind = k
			if cells.Check([]api.Array{a}) {
				t.Errorf("Check of the kind %d", k)
			}
			refused(t, a, num(8, 0), word(1), 0, api.ErrArg)
		}
	}
}

// refused asks all calls of a cell for one error.
func refused(t *testing.T, a api.Array, i, v api.Bits, now int, want api.Errno) {
	t.Helper()
	if b, e := cells.Count(a, i); e != want || !isNoArray(b) {
		t.Errorf("Count(%v, %v) = %v, %d", a, i, b, e)
	}
	if b, e := cells.Read(a, i); e != want || b != (api.Bits{}) {
		t.Errorf("Read(%v, %v) = %v, %d", a, i, b, e)
	}
	if b, e := cells.Write(a, i, v); e != want || !isNoArray(b) {
		t.Errorf("Write(%v, %v, %v) = %v, %d", a, i, v, b, e)
	}
	if b, x, e := cells.Meter(a, i, now); e != want || !isNoArray(b) || x != (api.Bits{}) {
		t.Errorf("Meter(%v, %v, %d) = %v, %v, %d", a, i, now, b, x, e)
	}
}

func TestCount(t *testing.T) { // P14.2
	for _, c := range []struct {
		l    []uint64
		i    api.Bits
		want []uint64
	}{
		{[]uint64{0, 0}, num(8, 1), []uint64{0, 1}}, {[]uint64{0, 0}, num(1, 0), []uint64{1, 0}}, {[]uint64{7}, num(128, 0), []uint64{8}},
		{[]uint64{1, all, 3}, num(2, 1), []uint64{1, 0, 3}}, {[]uint64{all - 1, 5}, num(64, 0), []uint64{all, 5}}, {[]uint64{1<<32 - 1}, num(1, 0), []uint64{1 << 32}},
	} {
		if got, e := cells.Count(counter(c.l...), c.i); e != api.OK || !sameArray(got, counter(c.want...)) {
			t.Errorf("Count(%v, %v) = %v, %d", c.l, c.i, got, e)
		}
	}
}

func TestCountOnAndOn(t *testing.T) { // P14.2
	a := counter(all-1, 0, 0)
	for range 5 {
		for at := range 3 {
			a, _ = cells.Count(a, num(2, uint64(at)))
		}
	}
	if !sameArray(a, counter(3, 5, 5)) {
		t.Errorf("Count: %v", a)
	}
}

func TestReadAndWrite(t *testing.T) { // P14.2
	for _, w := range []int{1, 2, 8, 63, 64, 65, 127, 128} {
		most := cut(w, all, all)
		a := register(w, 0, 1, 0, 1)
		for at := range 4 {
			for _, iw := range []int{2, 3, 64, 65, 128} {
				i := num(iw, uint64(at))
				if v, e := cells.Read(a, i); e != api.OK || v != a.Cells[at] {
					t.Errorf("Read(%v, %v) = %v, %d", a, i, v, e)
				}
				for _, v := range []api.Bits{most, num(w, 0), num(w, 1)} {
					b, e := cells.Write(a, i, v)
					want := register(w, 0, 1, 0, 1)
					want.Cells[at] = v
					if e != api.OK || !sameArray(b, want) {
						t.Errorf("Write(%v, %v, %v) = %v, %d", a, i, v, b, e)
					}
					if x, e := cells.Read(b, i); e != api.OK || x != v {
						t.Errorf("Read of what was written, %v: %v, %d", v, x, e)
					}
				}
			}
		}
	}
}

// places are numbers of cells, and whether an array of so many cells has them.
func places(n int) []struct {
	i     api.Bits
	there bool
} {
	return []struct {
		i     api.Bits
		there bool
	}{
		{num(16, 0), true}, {num(16, uint64(n-1)), true}, {num(13, uint64(n-1)), true}, {num(128, uint64(n-1)), true}, {num(1, 0), true},
		{num(16, uint64(n)), false}, {num(16, uint64(n+1)), false}, {num(16, 65535), false}, {num(33, 1<<32), false}, {num(64, 1<<63), false}, {num(64, all), false}, {num(128, uint64(n)), false},
		{api.Bits{W: 65, Hi: 1}, false}, {api.Bits{W: 128, Hi: 1, Lo: uint64(n - 1)}, false}, {api.Bits{W: 128, Hi: 1 << 63}, false}, {api.Bits{W: 128, Hi: all, Lo: all}, false},
	}
}

func TestGone(t *testing.T) { // P14.2, P14.3
	for _, n := range []int{1, 2, 3, 255, 256, 4096} {
		noughts := make([]uint64, n)
		for _, c := range places(n) {
			want := api.ErrGone
			if c.there {
				want = api.OK
			}
			a, e := cells.Count(counter(noughts...), c.i)
			_, f := cells.Read(register(8, noughts...), c.i)
			b, g := cells.Write(register(8, noughts...), c.i, num(8, 1))
			d, x, h := cells.Meter(meter(1, 1, noughts...), c.i, 1)
			if e != want || f != want || g != want || h != want {
				t.Errorf("%d cells, %v: Count %d, Read %d, Write %d, Meter %d", n, c.i, e, f, g, h)
			}
			if !c.there && (!isNoArray(a) || !isNoArray(b) || !isNoArray(d) || x != api.Bits{}) {
				t.Errorf("%d cells, %v: something beside ErrGone", n, c.i)
			}
			if c.there && (a.Cells[c.i.Lo] != word(1) || b.Cells[c.i.Lo] != num(8, 1) || d.Last[c.i.Lo] != 1) {
				t.Errorf("%d cells, %v: another cell", n, c.i)
			}
		}
	}
}

func TestOtherKinds(t *testing.T) { // P14.2, P14.3
	for _, i := range []api.Bits{num(8, 0), num(8, 9)} { // also ahead of ErrGone
		for _, a := range []api.Array{register(64, 1, 1), meter(3, 5, 1, 1)} {
			if b, e := cells.Count(a, i); e != api.ErrArg || !isNoArray(b) {
				t.Errorf("Count(%v, %v) = %v, %d", a, i, b, e)
			}
		}
		for _, a := range []api.Array{counter(1, 1), meter(3, 5, 1, 1)} {
			if b, e := cells.Read(a, i); e != api.ErrArg || b != (api.Bits{}) {
				t.Errorf("Read(%v, %v) = %v, %d", a, i, b, e)
			}
			if b, e := cells.Write(a, i, word(1)); e != api.ErrArg || !isNoArray(b) {
				t.Errorf("Write(%v, %v) = %v, %d", a, i, b, e)
			}
		}
		for _, a := range []api.Array{counter(1, 1), register(64, 1, 1)} {
			if b, x, e := cells.Meter(a, i, 1); e != api.ErrArg || !isNoArray(b) || x != (api.Bits{}) {
				t.Errorf("Meter(%v, %v) = %v, %v, %d", a, i, b, x, e)
			}
		}
	}
}

func TestWrongNumbers(t *testing.T) { // P14.2, P14.3
	for _, i := range notNumbers() {
		if b, e := cells.Count(counter(1, 2), i); e != api.ErrArg || !isNoArray(b) {
			t.Errorf("Count at %v = %v, %d", i, b, e)
		}
		if b, e := cells.Read(register(8, 1, 2), i); e != api.ErrArg || b != (api.Bits{}) {
			t.Errorf("Read at %v = %v, %d", i, b, e)
		}
		if b, e := cells.Write(register(8, 1, 2), i, num(8, 1)); e != api.ErrArg || !isNoArray(b) {
			t.Errorf("Write at %v = %v, %d", i, b, e)
		}
		if b, x, e := cells.Meter(meter(1, 2, 1, 2), i, 1); e != api.ErrArg || !isNoArray(b) || x != (api.Bits{}) {
			t.Errorf("Meter at %v = %v, %v, %d", i, b, x, e)
		}
	}
}

func TestWriteWrongValues(t *testing.T) { // P14.2
	for _, w := range []int{1, 4, 8, 63, 64, 65, 127, 128} {
		a := register(w, 1, 0)
		values := []api.Bits{num(w-1, 0), num(w+1, 0), num(129, 1), num(-w, 1), {}}
		if w < 128 {
			over := api.Bits{W: w, Hi: 1, Lo: 0}
			if w > 64 {
				over.Hi = 1 << (w - 64)
			}
			values = append(values, over)
		}
		if w < 64 {
			values = append(values, num(w, 1<<w))
		}
		for _, v := range values {
			for _, i := range []api.Bits{num(8, 0), num(8, 2), {W: 128, Hi: 1}} { // ErrArg ahead of ErrGone
				if b, e := cells.Write(a, i, v); e != api.ErrArg || !isNoArray(b) {
					t.Errorf("Write(%v, %v, %v) = %v, %d", a, i, v, b, e)
				}
			}
		}
	}
}

// TestSpoilt: an array of which one thing may not be is refused, whichever cell is asked for.
func TestSpoilt(t *testing.T) { // P14.2, P14.3
	for _, a := range []api.Array{
		{}, {Kind: api.DeRegister, W: 8}, {Kind: api.DeCounter, W: 64}, {Kind: api.DeMeter, W: 64, Burst: 1},
		{Kind: api.DeRegister, W: 8, Cells: []api.Bits{num(8, 1), num(9, 1)}}, {Kind: api.DeRegister, W: 8, Cells: []api.Bits{num(8, 1), num(8, 256)}},
		{Kind: api.DeRegister, W: 8, Rate: 1, Cells: []api.Bits{num(8, 1)}}, {Kind: api.DeRegister, W: 8, Burst: 1, Cells: []api.Bits{num(8, 1)}}, {Kind: api.DeRegister, W: 8, Cells: []api.Bits{num(8, 1)}, Last: []int{0}},
		{Kind: api.DeCounter, W: 63, Cells: []api.Bits{num(63, 1)}}, {Kind: api.DeCounter, W: 64, Cells: []api.Bits{word(1), num(63, 1)}}, {Kind: api.DeCounter, W: 64, Cells: words(1), Last: []int{1}},
		{Kind: api.DeMeter, W: 64, Burst: 3, Cells: words(1)}, {Kind: api.DeMeter, W: 64, Burst: 3, Cells: words(1, 4), Last: []int{0, 0}}, {Kind: api.DeMeter, W: 64, Burst: 3, Cells: words(1, 1), Last: []int{0, -1}},
		{Kind: api.DeMeter, W: 64, Burst: 3, Cells: words(1, 1), Last: []int{0}}, {Kind: api.DeMeter, W: 64, Rate: 65536, Burst: 3, Cells: words(1), Last: []int{0}},
		{Kind: api.DeRegister, W: 8, Cells: slices.Repeat([]api.Bits{num(8, 1)}, 4097)}, {Kind: api.DeCounter, W: 64, Cells: slices.Repeat(words(1), 4097)},
		{Kind: api.DeMeter, W: 64, Burst: 3, Cells: slices.Repeat(words(1), 4097), Last: make([]int, 4097)},
	} {
		for _, i := range []api.Bits{num(16, 0), num(16, 1), num(16, 9999), {W: 128, Hi: 1}} {
			refused(t, a, i, num(8, 1), 1, api.ErrArg)
			refused(t, a, i, word(1), 1, api.ErrArg)
		}
	}
}
