package match_test

import (
	"fmt"
	"math"
	"slices"
	"testing"

	"pointsman/api"
	"pointsman/match"
)

// finds asks for the place of the entry that counts, of the model too.
func finds(t *testing.T, x match.Table, l []api.Entry, want int, keys ...api.Bits) {
	t.Helper()
	if at := match.Find(x, l, keys); at != want {
		t.Fatalf("Find(%s) = %d, want %d", brief(x, l, keys), at, want)
	}
	if at := modelFind(x, l, keys); at != want {
		t.Fatalf("Find(%s): the model says %d, want %d", brief(x, l, keys), at, want)
	}
}

// brief tells the beginning of what may be long.
func brief(l ...any) string { return fmt.Sprintf("%.600q", fmt.Sprintf("%+v", l)) }

// TestKinds: all matches and keys of a few bits.
func TestKinds(t *testing.T) { // P13.3
	for _, kind := range kinds {
		for w := 1; w <= 4; w++ {
			x := table(1, w, kind)
			for value := range uint64(1) << w {
				for other := range uint64(1) << w {
					m := api.Match{Value: num(w, value), Mask: num(w, other), Len: int(other)}
					for key := range uint64(1) << w {
						want := -1
						switch {
						case kind == api.KeExact && key == value,
							kind == api.KePrefix && m.Len <= w && key>>(w-m.Len) == value>>(w-m.Len),
							kind == api.KeMask && key&other == value&other,
							kind == api.KeRange && value <= key && key <= other:
							want = 0
						}
						finds(t, x, []api.Entry{entry(1, m)}, want, num(w, key))
					}
				}
			}
		}
	}
}

// TestBits: of wide keys each bit counts where it is asked for.
func TestBits(t *testing.T) { // P13.3
	r := dice()
	for _, w := range widths {
		x := func(kind api.KeyKind) match.Table { return table(1, w, kind) }
		base, mask := cut(w, r.Uint64(), r.Uint64()), cut(w, r.Uint64(), r.Uint64())
		for i := range w {
			bit := single(w, i)
			turned := api.Bits{W: w, Hi: base.Hi ^ bit.Hi, Lo: base.Lo ^ bit.Lo}
			ask := func(kind api.KeyKind, m api.Match, key api.Bits, ok bool) {
				t.Helper()
				want := -1
				if ok {
					want = 0
				}
				finds(t, x(kind), []api.Entry{entry(1, m)}, want, key)
			}
			ask(api.KeExact, api.Match{Value: base}, base, true)
			ask(api.KeExact, api.Match{Value: base}, turned, false)
			for _, n := range []int{0, w - 1 - i, w - i, w} {
				ask(api.KePrefix, api.Match{Value: base, Len: n}, turned, n <= w-1-i)
				ask(api.KePrefix, api.Match{Value: base, Len: n}, base, true)
			}
			ask(api.KeMask, api.Match{Value: base, Mask: bit}, turned, false)
			ask(api.KeMask, api.Match{Value: base, Mask: bit}, base, true)
			ask(api.KeMask, api.Match{Value: base, Mask: mask}, turned, mask.Hi&bit.Hi == 0 && mask.Lo&bit.Lo == 0)
			greater := turned.Hi > base.Hi || turned.Hi == base.Hi && turned.Lo > base.Lo
			ask(api.KeRange, api.Match{Value: base, Mask: full(w)}, turned, greater)
			ask(api.KeRange, api.Match{Value: num(w, 0), Mask: base}, turned, !greater)
			ask(api.KeRange, api.Match{Value: base, Mask: base}, base, true)
			ask(api.KeRange, api.Match{Value: base, Mask: base}, turned, false)
		}
	}
}

// TestWeights: which one counts, and the first one of several.
func TestWeights(t *testing.T) { // P13.3, R6
	any := func(priority int) api.Entry { return entry(priority, pair(0, 0)) }
	mask, span := table(9, 8, api.KeMask), table(9, 8, api.KeRange)
	for _, c := range []struct {
		want       int
		priorities []int
	}{
		{0, []int{1}}, {0, []int{2, 1}}, {1, []int{1, 2}}, {0, []int{2, 2}}, {1, []int{1, 2, 2}}, {2, []int{1, 2, 3, 3, 2}}, {1, []int{1, math.MaxInt32}},
		// Numbers that no entry that may be has.
		{0, []int{0}}, {0, []int{-1}}, {1, []int{-2, -1}}, {1, []int{-1, 0}}, {0, []int{math.MinInt}}, {1, []int{math.MinInt, math.MaxInt}}, {0, []int{math.MaxInt, math.MinInt}}, {1, []int{math.MinInt, math.MinInt + 1}},
	} {
		var l []api.Entry
		for _, p := range c.priorities {
			l = append(l, any(p))
		}
		finds(t, mask, l, c.want, eight(0))
		finds(t, span, l, c.want, eight(0))
		// One that does not match counts nothing.
		finds(t, mask, append([]api.Entry{entry(math.MaxInt, pair(1, 1))}, l...), c.want+1, eight(0))
	}
	l := []api.Entry{entry(0, prefix(0x80, 1)), entry(0, prefix(0, 0)), entry(0, prefix(0xc0, 2)), entry(0, prefix(0xc0, 8)), entry(0, prefix(0xc0, 2))}
	for key, want := range map[uint64]int{0: 1, 0x7f: 1, 0x80: 0, 0xbf: 0, 0xc0: 3, 0xc1: 2, 0xff: 2} {
		finds(t, table(9, 8, api.KePrefix), l, want, eight(key))
	}
	// Priority makes no difference in a table that does not weigh; nor does Len in one that does.
	l = []api.Entry{entry(1, prefix(0x80, 1)), entry(2, prefix(0x80, 1)), entry(0, prefix(0x80, 2)), entry(9, prefix(0, 0))}
	finds(t, table(9, 8, api.KePrefix), l, 2, eight(0x80))
	for i := range l {
		l[i].Matches = append(l[i].Matches, pair(0, 0xff))
	}
	finds(t, table(9, 8, api.KePrefix, api.KeRange), l, 3, eight(0x80), eight(1))
	l = []api.Entry{entry(1, exact(1)), entry(5, exact(1)), entry(9, exact(2)), {Matches: []api.Match{{Value: eight(1), Len: 7}}}}
	finds(t, table(9, 8, api.KeExact), l, 0, eight(1))
	finds(t, table(9, 8, api.KeExact), l[1:], 0, eight(1))
	finds(t, table(9, 8, api.KeExact), l, 2, eight(2))
	finds(t, table(9, 8, api.KeExact), l, -1, eight(3))
	finds(t, table(9, 8), []api.Entry{entry(0, exact(0)), entry(1), entry(2)}, 1)
	finds(t, table(9, 8), nil, -1)
}

// TestPrefixPlace: it is the Len of the key that is a prefix, wherever it stands.
func TestPrefixPlace(t *testing.T) { // P13.3
	for at := range 3 {
		x := table(9, 8, list(3, api.KeExact)...)
		x.Kinds[at] = api.KePrefix
		var l []api.Entry
		for _, n := range []int{1, 3, 2} {
			m := list(3, api.Match{Value: eight(0), Len: 9 - n}) // of the other keys it isn't looked at
			m[at].Len = n
			l = append(l, entry(0, m...))
		}
		finds(t, x, l, 1, eight(0), eight(0), eight(0))
	}
}

// TestAllMatch: each key is asked, by its own match.
func TestAllMatch(t *testing.T) { // P13.3
	x := match.Table{Kinds: kinds, Widths: []int{8, 16, 70, 128}, Size: 1}
	e := entry(1, exact(7), api.Match{Value: num(16, 0x4000), Len: 2}, api.Match{Value: api.Bits{W: 70, Hi: 1}, Mask: api.Bits{W: 70, Hi: 3}}, api.Match{Value: api.Bits{W: 128, Hi: 1}, Mask: api.Bits{W: 128, Hi: 2}})
	checks(t, "four kinds", x, e, true)
	good := []api.Bits{eight(7), num(16, 0x7fff), {W: 70, Hi: 0x3d, Lo: 9}, {W: 128, Hi: 1, Lo: math.MaxUint64}}
	bad := []api.Bits{eight(8), num(16, 0x8000), {W: 70, Hi: 3}, {W: 128, Hi: 2, Lo: 1}}
	finds(t, x, []api.Entry{e}, 0, good...)
	for i := range good {
		keys := slices.Clone(good)
		keys[i] = bad[i]
		finds(t, x, []api.Entry{e}, -1, keys...)
	}
}

// TestKeys: as many as the table has, each of which may be, and is as wide.
func TestKeys(t *testing.T) { // P13.3
	for _, kind := range kinds {
		for _, w := range widths {
			x := table(1, w, kind, api.KeExact)
			l := []api.Entry{plain(x)}
			if kind == api.KeRange || kind == api.KeMask {
				l[0].Matches[0].Mask = api.Bits{W: w}
			}
			nought := api.Bits{W: w}
			finds(t, x, l, 0, nought, nought)
			finds(t, x, l, -1)
			finds(t, x, l, -1, nought)
			finds(t, x, l, -1, nought, nought, nought)
			wrong := []api.Bits{{}, {W: w - 1}, {W: w + 1}, {W: -w}, {W: math.MinInt}, {W: math.MaxInt}, {W: 129}}
			if w < 128 {
				wrong = append(wrong, api.Bits{W: w, Hi: single(w, w).Hi, Lo: single(w, w).Lo}, api.Bits{W: w, Hi: 1 << 63})
			}
			for _, k := range wrong {
				finds(t, x, l, -1, k, nought)
				finds(t, x, l, -1, nought, k)
			}
		}
	}
	finds(t, table(1, 8), []api.Entry{{}}, 0)
	finds(t, table(1, 8), []api.Entry{{}}, -1, eight(0))
}

// TestOdd: entries that may not be the table's are in a list.
func TestOdd(t *testing.T) { // P13.3
	for _, kind := range kinds {
		x := table(1, 8, kind)
		asked := kind == api.KeMask || kind == api.KeRange
		for _, c := range []struct {
			what string
			ok   bool
			e    api.Entry
		}{
			{"no matches", false, entry(1)},
			{"one more match", false, entry(1, pair(0, 0), pair(0, 0))},
			{"the value wider", false, entry(1, api.Match{Value: num(9, 0), Mask: eight(0)})},
			{"the value less wide", false, entry(1, api.Match{Value: num(7, 0), Mask: eight(0)})},
			{"no value", false, entry(1, api.Match{Mask: eight(0)})},
			{"the value and the mask wider", false, entry(1, api.Match{Value: num(9, 0), Mask: num(9, 0)})},
			{"the value has bits above its width", false, entry(1, api.Match{Value: num(8, 256), Mask: eight(0)})},
			{"the mask wider", !asked, entry(1, api.Match{Value: eight(0), Mask: num(9, 0)})},
			{"the mask less wide", !asked, entry(1, api.Match{Value: eight(0), Mask: num(7, 0)})},
			{"no mask", !asked, entry(1, api.Match{Value: eight(0)})},
			{"the mask has bits above its width", !asked, entry(1, api.Match{Value: eight(0), Mask: num(8, 256)})},
			{"a mask", true, entry(1, pair(0, 0))},
			{"a len", true, entry(1, api.Match{Value: eight(0), Mask: eight(0), Len: 8})},
			{"a len above the width", kind != api.KePrefix, entry(1, api.Match{Value: eight(0), Mask: eight(0), Len: 9})},
			{"a great len", kind != api.KePrefix, entry(1, api.Match{Value: eight(0), Mask: eight(0), Len: math.MaxInt})},
			{"a len below 0", kind != api.KePrefix, entry(1, api.Match{Value: eight(0), Mask: eight(0), Len: -1})},
			{"a len far below 0", kind != api.KePrefix, entry(1, api.Match{Value: eight(0), Mask: eight(0), Len: math.MinInt})},
			{"args that may not be", true, api.Entry{Matches: []api.Match{pair(0, 0)}, Args: []api.Bits{{W: 200}}}},
			{"no action", true, api.Entry{Matches: []api.Match{pair(0, 0)}}},
		} {
			want := -1
			if c.ok {
				want = 0
			}
			what := fmt.Sprint("kind ", kind, ": ", c.what)
			if at := match.Find(x, []api.Entry{c.e}, []api.Bits{eight(0)}); at != want {
				t.Errorf("%s: Find = %d, want %d", what, at, want)
			}
			// The one behind it is found, and it is no hindrance.
			behind := []api.Entry{c.e, entry(1, pair(0, 0))}
			if want < 0 {
				finds(t, x, behind, 1, eight(0))
			}
		}
	}
	// Bits of Value that aren't asked for make no difference.
	finds(t, table(1, 8, api.KePrefix), []api.Entry{entry(0, prefix(0x8f, 4))}, 0, eight(0x80))
	finds(t, table(1, 8, api.KeMask), []api.Entry{entry(1, pair(0x8f, 0xf0))}, 0, eight(0x83))
	finds(t, table(1, 8, api.KeRange), []api.Entry{entry(1, pair(9, 3))}, -1, eight(5))
}

// TestFollows: what was inserted is found by its own Values, unless another one counts more.
func TestFollows(t *testing.T) { // P13.4
	r := dice()
	seen := map[string]int{}
	for range 3000 {
		x := table4096(madeTable(r))
		var l []api.Entry
		for range 1 + r.IntN(12) {
			if more, e := match.Insert(x, l, madeEntry(r, x)); e == api.OK {
				l = more
			}
		}
		for at, e := range l {
			var keys []api.Bits
			for _, m := range e.Matches {
				keys = append(keys, m.Value)
			}
			finds(t, x, l[at:at+1], 0, keys...)
			got := match.Find(x, l, keys)
			switch {
			case got == at:
				seen["found"]++
			case got < 0 || match.Find(x, l[got:got+1], keys) != 0 || !countsMore(x, l, got, at):
				t.Fatalf("Find(%+v, %+v, %+v) = %d, of the entry %d", x, l, keys, got, at)
			default:
				seen["another"]++
			}
			if !slices.ContainsFunc(x.Kinds, func(k api.KeyKind) bool { return k != api.KeExact }) {
				without, _ := match.Delete(x, l, e)
				finds(t, x, l, at, keys...)
				finds(t, x, without, -1, keys...)
				seen["exact"]++
			}
		}
	}
	for _, what := range []string{"found", "another", "exact"} {
		if seen[what] < 1000 {
			t.Errorf("%s: %d times", what, seen[what])
		}
	}
}

// countsMore: the entry at a counts more than the one at b, if both match.
func countsMore(x match.Table, l []api.Entry, a, b int) bool {
	v, w := l[a].Priority, l[b].Priority
	if i := slices.Index(x.Kinds, api.KePrefix); i >= 0 && !modelWeighs(x) {
		v, w = l[a].Matches[i].Len, l[b].Matches[i].Len
	}
	return v > w || v == w && a < b
}
