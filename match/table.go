package match

import (
	"iter"
	"slices"

	"pointsman/api"
	"pointsman/bits"
)

// maxPriority is the greatest one that an entry may have.
const maxPriority = 1<<31 - 1

// from asks for a number of least to most.
func from(least, n, most int) bool { return least <= n && n <= most }

// isWide asks for a number that may be: what has bits above its width is of no width at all.
func isWide(b api.Bits, w int) bool { return b.W == w && bits.Check(b) }

func tableMayBe(t Table) bool {
	if len(t.Kinds) > api.MaxFields || len(t.Widths) != len(t.Kinds) || !from(1, t.Size, api.MaxCells) {
		return false
	}
	prefixes := 0
	for i, k := range t.Kinds {
		if k < api.KeExact || k > api.KeRange || !from(1, t.Widths[i], api.MaxWidth) {
			return false
		}
		if k == api.KePrefix {
			prefixes++
		}
	}
	return prefixes <= 1
}

func weighs(t Table) bool {
	return slices.Contains(t.Kinds, api.KeMask) || slices.Contains(t.Kinds, api.KeRange)
}

// entryMayBe asks for a table that may be.
func entryMayBe(t Table, e api.Entry) bool {
	return matchesMayBe(t, e.Matches) && priorityMayBe(t, e.Priority) &&
		!slices.ContainsFunc(e.Args, func(b api.Bits) bool { return !bits.Check(b) })
}

func matchesMayBe(t Table, l []api.Match) bool {
	rows := kinds()
	return len(l) == len(t.Kinds) && each(l, func(i int, m api.Match) bool {
		return isWide(m.Value, t.Widths[i]) && rows[t.Kinds[i]].mayBe(m, t.Widths[i])
	})
}

func priorityMayBe(t Table, n int) bool {
	if weighs(t) {
		return from(1, n, maxPriority)
	}
	return n == 0
}

// matching are the places of the entries whose matches all match. It asks for a table that may be, and for keys of its widths.
func matching(t Table, l []api.Entry, keys []api.Bits) iter.Seq[int] {
	rows := kinds()
	holds := func(i int, m api.Match) bool {
		return isWide(m.Value, keys[i].W) && rows[t.Kinds[i]].matches(m, keys[i])
	}
	return func(yield func(at int) bool) {
		for at, e := range l {
			if len(e.Matches) == len(keys) && each(e.Matches, holds) && !yield(at) {
				return
			}
		}
	}
}

func each(l []api.Match, holds func(i int, m api.Match) bool) bool {
	for i, m := range l {
		if !holds(i, m) {
			return false
		}
	}
	return true
}

// weigher tells how much an entry that matches counts: of a table that goes by nothing, each as much as any other.
func weigher(t Table) func(e api.Entry) int {
	if weighs(t) {
		return func(e api.Entry) int { return e.Priority }
	}
	if at := slices.Index(t.Kinds, api.KePrefix); at >= 0 {
		return func(e api.Entry) int { return e.Matches[at].Len }
	}
	return func(api.Entry) int { return 0 }
}
