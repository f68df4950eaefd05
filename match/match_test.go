package match_test

import (
	"fmt"
	"math"
	"slices"
	"strings"
	"testing"

	"pointsman/api"
	"pointsman/match"
)

// change is a call that answers a list.
type change struct {
	name string
	kind api.UpdateKind
	do   func(t match.Table, l []api.Entry, e api.Entry) ([]api.Entry, api.Errno)
}

var changes = []change{
	{"Insert", api.UpInsert, match.Insert},
	{"Modify", api.UpModify, match.Modify},
	{"Delete", api.UpDelete, match.Delete},
}

// kinds are all that there are.
var kinds = []api.KeyKind{api.KeExact, api.KePrefix, api.KeMask, api.KeRange}

// widths have the bounds of numbers among them, and those of their halves.
var widths = []int{1, 2, 7, 8, 63, 64, 65, 66, 127, 128}

// table has a key of w bits for each kind.
func table(size, w int, kinds ...api.KeyKind) match.Table {
	return match.Table{Kinds: kinds, Widths: list(len(kinds), w), Size: size}
}

func list[T any](n int, x T) []T {
	l := make([]T, n)
	for i := range l {
		l[i] = x
	}
	return l
}

func num(w int, lo uint64) api.Bits { return api.Bits{W: w, Lo: lo} }

func eight(n uint64) api.Bits { return num(8, n) }

// full has all of w bits.
func full(w int) api.Bits { return cut(w, math.MaxUint64, math.MaxUint64) }

// top has the first one of w bits.
func top(w int) api.Bits { return single(w, w-1) }

// single has the bit at alone, from the lowest on.
func single(w, at int) api.Bits {
	if at >= 64 {
		return api.Bits{W: w, Hi: 1 << (at - 64)}
	}
	return api.Bits{W: w, Lo: 1 << at}
}

func exact(n uint64) api.Match { return api.Match{Value: eight(n)} }

func prefix(n uint64, k int) api.Match { return api.Match{Value: eight(n), Len: k} }

func pair(v, m uint64) api.Match { return api.Match{Value: eight(v), Mask: eight(m)} }

// entry does a, and has no args.
func entry(priority int, l ...api.Match) api.Entry {
	return api.Entry{Matches: l, Priority: priority, Action: "a"}
}

// plain may be the table's, and matches numbers that are 0.
func plain(t match.Table) api.Entry {
	e := api.Entry{Action: "a"}
	for i, w := range t.Widths {
		m := api.Match{Value: api.Bits{W: w}}
		if i < len(t.Kinds) && (t.Kinds[i] == api.KeMask || t.Kinds[i] == api.KeRange) {
			m.Mask = api.Bits{W: w}
			e.Priority = 1
		}
		e.Matches = append(e.Matches, m)
	}
	return e
}

// noughts are the keys that plain matches.
func noughts(t match.Table) []api.Bits {
	var l []api.Bits
	for _, w := range t.Widths {
		l = append(l, api.Bits{W: w})
	}
	return l
}

// checks asks for an answer of Check, and of the calls that ask it first.
func checks(t *testing.T, what any, x match.Table, e api.Entry, ok bool) {
	t.Helper()
	want := api.OK
	if !ok {
		want = api.ErrArg
	}
	if f := match.Check(x, e); f != want {
		t.Fatalf("%s: Check says %d, want %d", brief(what), f, want)
	}
	if f := modelCheck(x, e); f != want {
		t.Fatalf("%s: the model says %d, want %d", brief(what), f, want)
	}
	for _, c := range changes {
		for _, l := range [][]api.Entry{nil, {e}, {e, e, e}} {
			if got, f := c.do(x, l, e); !ok && (f != api.ErrArg || len(got) > 0) || ok && f == api.ErrArg {
				t.Fatalf("%s: %s says %d with %d entries", brief(what), c.name, f, len(got))
			}
		}
	}
}

func TestExamples(t *testing.T) { // P13.1, P13.2, P13.3
	x := table(2, 8, api.KePrefix)
	first, second := entry(0, prefix(0x80, 1)), entry(0, prefix(0xc0, 2))
	l, e := match.Insert(x, nil, first)
	if e != api.OK || !same(l, []api.Entry{first}) {
		t.Errorf("Insert = %+v, %d", l, e)
	}
	if l, e := match.Insert(x, l, first); e != api.ErrThere || len(l) > 0 {
		t.Errorf("Insert = %+v, %d", l, e)
	}
	both := []api.Entry{first, second}
	if l, e := match.Insert(x, both, entry(0, prefix(0, 0))); e != api.ErrFull || len(l) > 0 {
		t.Errorf("Insert = %+v, %d", l, e)
	}
	for key, want := range map[uint64]int{0xc1: 1, 0x90: 0, 1: -1} {
		finds(t, x, both, want, eight(key))
	}
	for _, m := range []api.Match{prefix(0x81, 1), prefix(0x80, 9), {Value: num(16, 0)}} {
		checks(t, m, x, entry(0, m), false)
	}
}

func TestTable(t *testing.T) { // P13.1
	const x = api.KeExact
	for _, c := range []struct {
		what string
		ok   bool
		t    match.Table
	}{
		{"of no keys", true, table(1, 8)},
		{"zero", false, match.Table{}},
		{"MaxFields keys", true, table(1, 8, list(api.MaxFields, x)...)},
		{"one more", false, table(1, 8, list(api.MaxFields+1, x)...)},
		{"many more", false, table(1, 8, list(5000, x)...)},
		{"fewer widths", false, match.Table{Kinds: list(2, x), Widths: list(1, 8), Size: 1}},
		{"more widths", false, match.Table{Kinds: list(1, x), Widths: list(2, 8), Size: 1}},
		{"no widths", false, match.Table{Kinds: list(1, x), Size: 1}},
		{"no kinds", false, match.Table{Widths: list(1, 8), Size: 1}},
		{"MaxFields kinds, one more width", false, match.Table{Kinds: list(api.MaxFields, x), Widths: list(api.MaxFields+1, 8), Size: 1}},
		{"the last width", false, match.Table{Kinds: list(2, x), Widths: []int{8, 129}, Size: 1}},
		{"the first width", false, match.Table{Kinds: list(2, x), Widths: []int{0, 8}, Size: 1}},
		{"the last kind", false, table(1, 8, x, 5)},
		{"the first kind", false, table(1, 8, 0, x)},
		{"a prefix among others", true, table(1, 8, x, api.KeMask, api.KePrefix, api.KeRange, x)},
		{"two prefixes", false, table(1, 8, api.KePrefix, api.KePrefix)},
		{"three prefixes", false, table(1, 8, api.KePrefix, api.KePrefix, api.KePrefix)},
		{"prefixes apart", false, table(1, 8, api.KePrefix, x, api.KeRange, api.KePrefix)},
		{"two of each other kind", true, table(1, 8, x, api.KeMask, api.KeRange, api.KePrefix, api.KeRange, api.KeMask, x)},
	} {
		asksTable(t, c.what, c.t, c.ok)
	}
	for size, ok := range map[int]bool{1: true, 2: true, 4095: true, 4096: true, 0: false, -1: false, 4097: false, math.MinInt: false, math.MaxInt: false} {
		asksTable(t, fmt.Sprint("size ", size), table(size, 8, x), ok)
	}
	for _, kind := range kinds {
		for w, ok := range map[int]bool{1: true, 2: true, 64: true, 65: true, 127: true, 128: true, 0: false, -1: false, 129: false, 256: false, math.MinInt: false, math.MaxInt: false} {
			asksTable(t, fmt.Sprint("kind ", kind, ", width ", w), table(1, w, kind), ok)
		}
	}
	for kind := range 256 {
		asksTable(t, fmt.Sprint("kind ", kind), table(1, 8, api.KeyKind(kind)), 1 <= kind && kind <= 4)
	}
}

// asksTable asks all calls whether a table may be.
func asksTable(t *testing.T, what string, x match.Table, ok bool) {
	t.Helper()
	e := plain(x)
	checks(t, what, x, e, ok)
	want := -1
	if ok {
		want = 0
	}
	finds(t, x, []api.Entry{e}, want, noughts(x)...)
}

func TestValue(t *testing.T) { // P13.1
	for _, kind := range kinds {
		for _, w := range widths {
			x := table(1, w, kind)
			ask := func(value api.Bits, ok bool) {
				t.Helper()
				e := plain(x)
				e.Matches[0].Value = value
				switch kind {
				case api.KePrefix:
					e.Matches[0].Len = w
				case api.KeMask, api.KeRange:
					e.Matches[0].Mask = full(w)
				}
				checks(t, fmt.Sprint("kind ", kind, " of ", w, ": ", value), x, e, ok)
			}
			for _, v := range []api.Bits{{W: w}, full(w), top(w), num(w, 1)} {
				ask(v, true)
			}
			for _, other := range append([]int{0, -w, w - 1, w + 1, 129, math.MinInt, math.MaxInt}, widths...) {
				ask(num(other, 0), other == w)
			}
			if w < 128 {
				ask(api.Bits{W: w, Hi: single(w, w).Hi, Lo: single(w, w).Lo}, false)
				ask(api.Bits{W: w, Hi: 1 << 63}, false)
			}
		}
	}
}

// TestMatch: each kind's own bounds.
func TestMatch(t *testing.T) { // P13.1
	ask := func(kind api.KeyKind, w int, m api.Match, ok bool) {
		t.Helper()
		x := table(1, w, kind)
		e := plain(x)
		e.Matches[0] = m
		checks(t, fmt.Sprintf("kind %d of %d: %+v", kind, w, m), x, e, ok)
	}
	for _, w := range widths {
		nought, all := api.Bits{W: w}, full(w)
		lens := []int{0, 1, -1, w - 1, w, w + 1, 2 * w, 64, 128, 129, math.MinInt, math.MinInt + w, math.MaxInt}
		masks := []api.Bits{nought, all, top(w), {W: w + 1}, {W: w - 1, Lo: 1}, {W: -w}, {Lo: 1}, {Hi: 1}, {W: 129}, {W: w, Hi: 1 << 63, Lo: math.MaxUint64}}
		for _, n := range lens {
			ask(api.KeExact, w, api.Match{Value: all, Len: n}, n == 0)
			ask(api.KePrefix, w, api.Match{Value: nought, Len: n}, 0 <= n && n <= w)
			ask(api.KeMask, w, api.Match{Value: all, Mask: all, Len: n}, n == 0)
			ask(api.KeRange, w, api.Match{Value: nought, Mask: all, Len: n}, n == 0)
		}
		for i, m := range masks {
			wide := i < 3 || i == len(masks)-1 && w == 128
			ask(api.KeExact, w, api.Match{Value: all, Mask: m}, false)
			ask(api.KePrefix, w, api.Match{Value: nought, Mask: m}, false)
			ask(api.KeMask, w, api.Match{Value: nought, Mask: m}, wide)
			ask(api.KeRange, w, api.Match{Value: nought, Mask: m}, wide)
		}
		for _, kind := range kinds {
			ask(kind, w, api.Match{Value: nought}, kind == api.KeExact || kind == api.KePrefix)
		}
		// Each bit alone, from the first on: behind a prefix, beside a mask, above a range.
		for i := range w {
			one := single(w, w-1-i)
			for _, n := range []int{0, i, i + 1, w} {
				ask(api.KePrefix, w, api.Match{Value: one, Len: n}, i < n)
			}
			beside := api.Bits{W: w, Hi: all.Hi &^ one.Hi, Lo: all.Lo &^ one.Lo}
			ask(api.KeMask, w, api.Match{Value: one, Mask: one}, true)
			ask(api.KeMask, w, api.Match{Value: one, Mask: beside}, false)
			ask(api.KeMask, w, api.Match{Value: beside, Mask: beside}, true)
			ask(api.KeMask, w, api.Match{Value: all, Mask: beside}, false)
			ask(api.KeRange, w, api.Match{Value: one, Mask: one}, true)
			ask(api.KeRange, w, api.Match{Value: one, Mask: nought}, false)
			ask(api.KeRange, w, api.Match{Value: nought, Mask: one}, true)
			ask(api.KeRange, w, api.Match{Value: all, Mask: beside}, false)
			if i > 0 {
				ask(api.KeRange, w, api.Match{Value: one, Mask: single(w, w-i)}, true)
				ask(api.KeRange, w, api.Match{Value: single(w, w-i), Mask: one}, false)
			}
		}
	}
}

func TestPriority(t *testing.T) { // P13.1
	for _, c := range []struct {
		weighs bool
		kinds  []api.KeyKind
	}{
		{false, nil}, {false, kinds[:1]}, {false, kinds[:2]}, {false, kinds[1:2]},
		{true, kinds[2:3]}, {true, kinds[3:]}, {true, kinds}, {true, []api.KeyKind{api.KeRange, api.KeExact}}, {true, []api.KeyKind{api.KeExact, api.KeExact, api.KeMask}},
	} {
		x := table(1, 8, c.kinds...)
		for _, n := range []int{0, 1, 2, -1, math.MaxInt32 - 1, math.MaxInt32, math.MaxInt32 + 1, math.MinInt32, math.MinInt, math.MaxInt} {
			e := plain(x)
			e.Priority = n
			checks(t, fmt.Sprint("kinds ", c.kinds, ", priority ", n), x, e, n == 0 && !c.weighs || c.weighs && 1 <= n && n <= math.MaxInt32)
		}
	}
}

// TestMatches: as many as keys, and each of them is asked.
func TestMatches(t *testing.T) { // P13.1
	for n := range 5 {
		for m := range 6 {
			checks(t, fmt.Sprint(m, " matches of ", n, " keys"), table(1, 8, list(n, api.KeExact)...), entry(0, list(m, exact(7))...), m == n)
		}
	}
	x := table(1, 8, list(api.MaxFields, api.KeExact)...)
	checks(t, "all keys", x, entry(0, list(api.MaxFields, exact(7))...), true)
	for at := range api.MaxFields {
		e := entry(0, list(api.MaxFields, exact(7))...)
		e.Matches[at].Len = 1
		checks(t, fmt.Sprint("the match ", at), x, e, false)
	}
	// A match is asked by the kind and the width of its own key.
	y := match.Table{Kinds: []api.KeyKind{api.KeExact, api.KeMask, api.KePrefix}, Widths: []int{8, 16, 4}, Size: 1}
	l := []api.Match{exact(255), {Value: num(16, 0x100), Mask: num(16, 0xff00)}, {Value: num(4, 8), Len: 1}}
	checks(t, "three kinds", y, entry(1, l...), true)
	for _, order := range [][]int{{0, 2, 1}, {1, 0, 2}, {1, 2, 0}, {2, 0, 1}, {2, 1, 0}, {0, 0, 0}} {
		checks(t, order, y, entry(1, l[order[0]], l[order[1]], l[order[2]]), false)
	}
}

// TestAction: any name, any numbers that may be.
func TestAction(t *testing.T) { // P13.1
	for _, kind := range kinds {
		x := table(1, 8, kind)
		e := plain(x)
		for _, name := range []string{"", "a", "no name!", "\x00\xff", strings.Repeat("x", 70000)} {
			e.Action = name
			checks(t, name, x, e, true)
		}
		for _, w := range widths {
			e.Args = append(e.Args, full(w), num(w, 0))
			checks(t, e.Args, x, e, true)
		}
		for _, wrong := range []api.Bits{{}, {Lo: 1}, {W: -1}, {W: 129}, {W: 200}, {W: 1, Lo: 2}, {W: 64, Hi: 1}, {W: 127, Hi: 1 << 63}, {W: math.MinInt}, {W: math.MaxInt}} {
			for at := range e.Args {
				spoilt := e
				spoilt.Args = slices.Insert(slices.Clone(e.Args), at, wrong)
				checks(t, spoilt.Args, x, spoilt, false)
			}
		}
		e.Args = list(5000, full(128))
		checks(t, "many args", x, e, true)
	}
}
