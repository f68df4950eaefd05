package cells_test

import (
	"fmt"
	"math"
	"math/big"
	"math/rand/v2"
	"slices"
	"testing"

	"pointsman/api"
	"pointsman/cells"
)

// The model: the chapter's words once more, of numbers as whole numbers.

// value is a number's; nil of what may not be.
func value(b api.Bits) *big.Int {
	v := new(big.Int).SetUint64(b.Hi)
	v.Or(v.Lsh(v, 64), new(big.Int).SetUint64(b.Lo))
	if b.W < 1 || b.W > 128 || v.BitLen() > b.W {
		return nil
	}
	return v
}

func isWide(b api.Bits, w int) bool { return value(b) != nil && b.W == w }

// arrayFaults are all things for which an array may not be.
func arrayFaults(a api.Array) []string {
	var l []string
	note := func(fault bool, what string) {
		if fault {
			l = append(l, what)
		}
	}
	note(!slices.Contains([]api.DeclKind{api.DeRegister, api.DeCounter, api.DeMeter}, a.Kind), "kind")
	if a.Kind == api.DeRegister {
		note(a.W < 1 || a.W > 128, "width")
	} else {
		note(a.W != 64, "width")
	}
	if a.Kind == api.DeMeter {
		note(a.Rate < 0 || a.Rate > 65535, "rate")
		note(a.Burst < 1 || a.Burst > 65535, "burst")
		note(len(a.Last) != len(a.Cells), "other ticks than cells")
		for _, n := range a.Last {
			note(n < 0, "tick")
		}
	} else {
		note(a.Rate != 0, "rate")
		note(a.Burst != 0, "burst")
		note(len(a.Last) != 0, "ticks")
	}
	note(len(a.Cells) < 1, "no cells")
	note(len(a.Cells) > 4096, "cells")
	for _, b := range a.Cells {
		note(!isWide(b, a.W), "cell")
		note(a.Kind == api.DeMeter && isWide(b, 64) && value(b).Cmp(big.NewInt(int64(a.Burst))) > 0, "tokens")
	}
	return l
}

func modelNew(p api.Program) []api.Array {
	var l []api.Array
	for _, d := range p {
		if d.N > 4096 {
			continue
		}
		a := api.Array{Name: d.Name, Kind: d.Kind, Rate: d.Rate, Burst: d.Burst}
		for range d.N {
			switch d.Kind {
			case api.DeRegister:
				a.W, a.Cells = d.W, append(a.Cells, num(d.W, 0))
			case api.DeCounter:
				a.W, a.Cells = 64, append(a.Cells, word(0))
			case api.DeMeter:
				a.W, a.Cells, a.Last = 64, append(a.Cells, word(uint64(d.Burst))), append(a.Last, 0)
			}
		}
		if len(arrayFaults(a)) == 0 {
			l = append(l, a)
		}
	}
	return l
}

// modelFind is the place of a cell.
func modelFind(kind api.DeclKind, a api.Array, i api.Bits) (int, api.Errno) {
	if len(arrayFaults(a)) > 0 || a.Kind != kind || value(i) == nil {
		return 0, api.ErrArg
	}
	if value(i).Cmp(big.NewInt(int64(len(a.Cells)))) >= 0 {
		return 0, api.ErrGone
	}
	return int(value(i).Int64()), api.OK
}

// answer is what a call that may change a cell comes to.
type answer struct {
	A api.Array
	V api.Bits
	E api.Errno
}

func sameAnswer(a, b answer) bool { return sameArray(a.A, b.A) && a.V == b.V && a.E == b.E }

func modelCount(h handed) answer {
	at, e := modelFind(api.DeCounter, h.A, h.I)
	if e != api.OK {
		return answer{E: e}
	}
	out := copied(h.A, 0)
	more := new(big.Int).Add(value(h.A.Cells[at]), big.NewInt(1))
	out.Cells[at] = word(more.And(more, new(big.Int).SetUint64(all)).Uint64())
	return answer{A: out}
}

func modelRead(h handed) answer {
	at, e := modelFind(api.DeRegister, h.A, h.I)
	if e != api.OK {
		return answer{E: e}
	}
	return answer{V: h.A.Cells[at]}
}

func modelWrite(h handed) answer {
	at, e := modelFind(api.DeRegister, h.A, h.I)
	if e == api.ErrArg || !isWide(h.V, h.A.W) {
		return answer{E: api.ErrArg}
	}
	if e != api.OK {
		return answer{E: e}
	}
	out := copied(h.A, 0)
	out.Cells[at] = h.V
	return answer{A: out}
}

func modelMeter(h handed) answer {
	at, e := modelFind(api.DeMeter, h.A, h.I)
	if e == api.ErrArg || h.Now < 0 {
		return answer{E: api.ErrArg}
	}
	if e != api.OK {
		return answer{E: e}
	}
	out := copied(h.A, 0)
	tokens := value(h.A.Cells[at])
	if h.Now > h.A.Last[at] {
		ticks := new(big.Int).Sub(big.NewInt(int64(h.Now)), big.NewInt(int64(h.A.Last[at])))
		tokens.Add(tokens, ticks.Mul(ticks, big.NewInt(int64(h.A.Rate))))
		out.Last[at] = h.Now
	}
	if most := big.NewInt(int64(h.A.Burst)); tokens.Cmp(most) > 0 {
		tokens = most
	}
	said := num(1, 0)
	if tokens.Sign() > 0 {
		said.Lo = 1
		tokens.Sub(tokens, big.NewInt(1))
	}
	out.Cells[at] = word(tokens.Uint64())
	return answer{A: out, V: said}
}

// calls are those that go to a cell, each with its model.
var calls = []struct {
	name  string
	do    func(h handed) answer
	model func(h handed) answer
}{
	{"Count", func(h handed) answer {
		a, e := cells.Count(h.A, h.I)
		return answer{a, api.Bits{}, e}
	}, modelCount},
	{"Read", func(h handed) answer {
		v, e := cells.Read(h.A, h.I)
		return answer{api.Array{}, v, e}
	}, modelRead},
	{"Write", func(h handed) answer {
		a, e := cells.Write(h.A, h.I, h.V)
		return answer{a, api.Bits{}, e}
	}, modelWrite},
	{"Meter", func(h handed) answer {
		a, v, e := cells.Meter(h.A, h.I, h.Now)
		return answer{a, v, e}
	}, modelMeter},
}

// What is made up.

// dice are alike on every run.
func dice(n uint64) *rand.Rand { return rand.New(rand.NewPCG(14, n)) }

func pick[T any](r *rand.Rand, l ...T) T { return l[r.IntN(len(l))] }

// cut is a number of w bits.
func cut(w int, hi, lo uint64) api.Bits {
	if w <= 64 {
		return api.Bits{W: w, Lo: lo & (1<<w - 1)}
	}
	return api.Bits{W: w, Hi: hi & (1<<(w-64) - 1), Lo: lo}
}

// number is one of w bits; often one of a few.
func number(r *rand.Rand, w int) api.Bits {
	hi, lo := r.Uint64(), r.Uint64()
	return pick(r, cut(w, 0, 0), cut(w, 0, 1), cut(w, all, all), cut(w, hi, lo), cut(w, 0, lo%4))
}

// tick is often one next to a bound.
func tick(r *rand.Rand) int {
	return pick(r, 0, 0, 1, 2, 3, r.IntN(9), 65535, 65536, 1<<31, 1<<48, 1<<62, math.MaxInt-1, math.MaxInt, int(r.Uint64()>>1))
}

func anyInt(r *rand.Rand) int {
	return pick(r, 0, 1, -1, 2, 8, 63, 64, 65, 127, 128, 129, 4096, 4097, 65534, 65535, 65536, math.MinInt, math.MaxInt, r.IntN(300)-100)
}

func anyBits(r *rand.Rand) api.Bits {
	if r.IntN(2) == 0 {
		return api.Bits{W: anyInt(r), Hi: pick(r, 0, 0, r.Uint64()), Lo: pick(r, 0, 1, r.Uint64())}
	}
	return number(r, 1+r.IntN(128))
}

// madeArray may be.
func madeArray(r *rand.Rand) api.Array {
	a := api.Array{Name: pick(r, "", "a", "b"), Kind: pick(r, api.DeRegister, api.DeCounter, api.DeMeter), W: 64}
	if a.Kind == api.DeRegister {
		a.W = pick(r, 1, 2, 8, 63, 64, 65, 127, 128, 1+r.IntN(128))
	}
	if a.Kind == api.DeMeter {
		a.Rate = pick(r, 0, 1, 2, 3, 65534, 65535, r.IntN(65536))
		a.Burst = pick(r, 1, 2, 3, 5, 65534, 65535, 1+r.IntN(65535))
	}
	for range pick(r, 1, 1, 2, 3, 4, 5, 9) {
		b := number(r, a.W)
		if a.Kind == api.DeMeter {
			b = word(pick(r, 0, 0, 1, uint64(a.Burst), uint64(a.Burst)-1, b.Lo%uint64(a.Burst)))
			a.Last = append(a.Last, tick(r))
		}
		a.Cells = append(a.Cells, b)
	}
	return a
}

// spoilArray makes one thing another; it may be nevertheless.
func spoilArray(r *rand.Rand, a *api.Array) {
	switch n := r.IntN(10); {
	case n == 0:
		a.Kind = pick(r, api.DeRegister, api.DeCounter, api.DeMeter, api.DeclKind(r.IntN(12)), api.DeclKind(r.IntN(256)))
	case n == 1:
		a.W = anyInt(r)
	case n == 2:
		a.Rate = anyInt(r)
	case n == 3:
		a.Burst = anyInt(r)
	case n == 4 && len(a.Cells) > 0:
		a.Cells = a.Cells[:r.IntN(len(a.Cells))]
	case n == 5:
		a.Last = append(a.Last, tick(r))
	case n == 6 && len(a.Last) > 0:
		a.Last[r.IntN(len(a.Last))] = anyInt(r)
	case n == 7 && len(a.Last) > 0:
		a.Last = a.Last[1:]
	case len(a.Cells) > 0:
		at := r.IntN(len(a.Cells))
		a.Cells[at] = pick(r, anyBits(r), num(a.W, uint64(a.Burst)+1), api.Bits{W: a.W, Hi: 1 << r.IntN(64)})
	}
}

// madeHanded is often so that one of the calls does what it is asked for.
func madeHanded(r *rand.Rand) handed {
	h := handed{A: madeArray(r), Now: tick(r)}
	h.V = number(r, h.A.W)
	h.I = number(r, pick(r, 8, 16, 64, 128))
	if r.IntN(4) > 0 {
		h.I = num(pick(r, 4, 8, 64, 128), uint64(r.IntN(len(h.A.Cells)+1)))
	}
	if len(h.A.Last) > 0 && r.IntN(2) == 0 {
		h.Now = max(0, pick(r, h.A.Last...)+pick(r, -1, 0, 0)+min(1, r.IntN(3)))
	}
	return h
}

func TestModel(t *testing.T) { // P14.1, P14.2, P14.3
	r := dice(1)
	seen := map[string]int{}
	for n := range 100000 {
		h := madeHanded(r)
		if n%3 == 0 {
			for range 1 + r.IntN(2) {
				spoilArray(r, &h.A)
			}
		}
		if n%7 == 0 {
			h.I = anyBits(r)
		}
		if n%8 == 0 {
			h.V = anyBits(r)
		}
		if n%9 == 0 {
			h.Now = anyInt(r)
		}
		mayBe := len(arrayFaults(h.A)) == 0
		if cells.Check([]api.Array{h.A}) != mayBe {
			t.Fatalf("Check(%+v) = %v: %q", h.A, !mayBe, arrayFaults(h.A))
		}
		seen[fmt.Sprint("Check ", mayBe)]++
		for _, c := range calls {
			got, want := c.do(h), c.model(h)
			if !sameAnswer(got, want) {
				t.Fatalf("%s of %+v = %+v, want %+v", c.name, h, got, want)
			}
			if got.E == api.OK && c.name != "Read" && !cells.Check([]api.Array{got.A}) {
				t.Fatalf("%s of %+v: an array that may not be: %+v", c.name, h, got)
			}
			seen[fmt.Sprint(c.name, " ", int(got.E), " ", got.V)]++
			seen[fmt.Sprint(c.name, " ", int(got.E))]++
		}
	}
	for _, what := range []string{"Check true", "Check false", "Count 0", "Count 1", "Count 11", "Read 0", "Read 1", "Read 11", "Write 0", "Write 1", "Write 11", "Meter 0 {1 0 0}", "Meter 0 {1 0 1}", "Meter 1", "Meter 11"} {
		if seen[what] < 1000 {
			t.Errorf("%s came about %d times", what, seen[what])
		}
	}
}

func TestModelNew(t *testing.T) { // P14.1
	r := dice(2)
	there := 0
	for range 5000 {
		var p api.Program
		for range r.IntN(6) {
			d := decl(pick(r, api.DeRegister, api.DeCounter, api.DeMeter, api.DeTable))
			d.Name, d.N = pick(r, "a", "b", ""), pick(r, 1, 2, 3, anyInt(r))
			switch r.IntN(6) {
			case 0:
				d.W = anyInt(r)
			case 1:
				d.Rate = anyInt(r)
			case 2:
				d.Burst = anyInt(r)
			case 3:
				d.Kind = api.DeclKind(r.IntN(256))
			}
			p = append(p, d)
		}
		got, want := cells.New(p), modelNew(p)
		if !sameArrays(got, want) || !cells.Check(got) {
			t.Fatalf("New(%+v): %d arrays, want %d", p, len(got), len(want))
		}
		there += len(got)
	}
	if there < 1000 {
		t.Errorf("only %d arrays came about", there)
	}
}
