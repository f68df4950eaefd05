package match_test

import (
	"fmt"
	"math"
	"math/rand/v2"
	"slices"
	"strings"
	"testing"

	"pointsman/api"
	"pointsman/match"
)

// The model: the chapter's words once more, of numbers as texts of their bits.

// digits are a number's bits, the first one first; none of what may not be.
func digits(b api.Bits) string {
	if b.W < 1 || b.W > 128 {
		return ""
	}
	all := fmt.Sprintf("%064b%064b", b.Hi, b.Lo)
	if strings.Contains(all[:128-b.W], "1") {
		return ""
	}
	return all[128-b.W:]
}

func tableFaults(t match.Table) []string {
	var l []string
	note := func(fault bool, what string) {
		if fault {
			l = append(l, what)
		}
	}
	note(len(t.Kinds) > 64, "too many kinds")
	note(len(t.Kinds) != len(t.Widths), "other widths than kinds")
	note(t.Size < 1 || t.Size > 4096, "size")
	prefixes := 0
	for _, k := range t.Kinds {
		note(!slices.Contains([]api.KeyKind{api.KeExact, api.KePrefix, api.KeMask, api.KeRange}, k), "no kind")
		if k == api.KePrefix {
			prefixes++
		}
	}
	note(prefixes > 1, "prefixes")
	for _, w := range t.Widths {
		note(w < 1 || w > 128, "no width")
	}
	return l
}

func modelWeighs(t match.Table) bool {
	return slices.ContainsFunc(t.Kinds, func(k api.KeyKind) bool { return k == api.KeMask || k == api.KeRange })
}

// matchFault is what is wrong with a match of an entry; "" if nothing is.
func matchFault(kind api.KeyKind, w int, m api.Match) string {
	value, mask := digits(m.Value), digits(m.Mask)
	if len(value) != w {
		return "value"
	}
	if kind != api.KePrefix && m.Len != 0 {
		return "len"
	}
	if kind == api.KeExact || kind == api.KePrefix {
		if m.Mask.W != 0 || m.Mask.Hi != 0 || m.Mask.Lo != 0 {
			return "a mask"
		}
	} else if len(mask) != w {
		return "mask"
	}
	switch kind {
	case api.KePrefix:
		if m.Len < 0 || m.Len > w {
			return "len"
		}
		if strings.Contains(value[m.Len:], "1") {
			return "bits behind"
		}
	case api.KeMask:
		for i := range value {
			if value[i] > mask[i] {
				return "bits beside"
			}
		}
	case api.KeRange:
		if value > mask {
			return "turned"
		}
	}
	return ""
}

// entryFaults asks for a table that may be.
func entryFaults(t match.Table, e api.Entry) []string {
	var l []string
	if len(e.Matches) != len(t.Kinds) {
		l = append(l, "other matches than keys")
	} else {
		for i, m := range e.Matches {
			if s := matchFault(t.Kinds[i], t.Widths[i], m); s != "" {
				l = append(l, s)
			}
		}
	}
	if p := e.Priority; modelWeighs(t) && (p < 1 || p > 2147483647) || !modelWeighs(t) && p != 0 {
		l = append(l, "priority")
	}
	for _, b := range e.Args {
		if digits(b) == "" {
			l = append(l, "arg")
		}
	}
	return l
}

func modelCheck(t match.Table, e api.Entry) api.Errno {
	if len(tableFaults(t)) > 0 || len(entryFaults(t, e)) > 0 {
		return api.ErrArg
	}
	return api.OK
}

func onePlace(a, b api.Entry) bool {
	return fmt.Sprint(len(a.Matches), a.Matches, a.Priority) == fmt.Sprint(len(b.Matches), b.Matches, b.Priority)
}

// modelChange is what Insert, Modify and Delete say.
func modelChange(kind api.UpdateKind, t match.Table, l []api.Entry, e api.Entry) ([]api.Entry, api.Errno) {
	if f := modelCheck(t, e); f != api.OK {
		return nil, f
	}
	var out []api.Entry
	seen := false
	for _, x := range l {
		if seen || !onePlace(x, e) {
			out = append(out, x)
			continue
		}
		seen = true
		if kind == api.UpModify {
			out = append(out, api.Entry{Matches: x.Matches, Priority: x.Priority, Action: e.Action, Args: e.Args})
		}
	}
	switch {
	case kind == api.UpInsert && seen:
		return nil, api.ErrThere
	case kind == api.UpInsert && len(l) >= t.Size:
		return nil, api.ErrFull
	case kind == api.UpInsert:
		return append(out, e), api.OK
	case !seen:
		return nil, api.ErrGone
	}
	return out, api.OK
}

func modelMatches(kind api.KeyKind, m api.Match, key api.Bits) bool {
	k, value, mask := digits(key), digits(m.Value), digits(m.Mask)
	if len(value) != len(k) || (kind == api.KeMask || kind == api.KeRange) && len(mask) != len(k) {
		return false
	}
	switch kind {
	case api.KeExact:
		return k == value
	case api.KePrefix:
		return 0 <= m.Len && m.Len <= len(k) && strings.HasPrefix(k, value[:m.Len])
	case api.KeMask:
		for i := range k {
			if mask[i] == '1' && k[i] != value[i] {
				return false
			}
		}
		return true
	}
	return value <= k && k <= mask
}

func modelFind(t match.Table, l []api.Entry, keys []api.Bits) int {
	if len(tableFaults(t)) > 0 || len(keys) != len(t.Kinds) {
		return -1
	}
	for i, k := range keys {
		if len(digits(k)) != t.Widths[i] {
			return -1
		}
	}
	var places []int
	for at, e := range l {
		ok := len(e.Matches) == len(keys)
		for i := 0; ok && i < len(keys); i++ {
			ok = modelMatches(t.Kinds[i], e.Matches[i], keys[i])
		}
		if ok {
			places = append(places, at)
		}
	}
	if len(places) == 0 {
		return -1
	}
	prefix := slices.Index(t.Kinds, api.KePrefix)
	return slices.MaxFunc(places, func(a, b int) int { // the first one of several
		switch {
		case modelWeighs(t):
			return compare(l[a].Priority, l[b].Priority)
		case prefix >= 0:
			return compare(l[a].Matches[prefix].Len, l[b].Matches[prefix].Len)
		}
		return 0
	})
}

func compare(a, b int) int {
	switch {
	case a < b:
		return -1
	case a > b:
		return 1
	}
	return 0
}

// What is made up.

// dice are alike on every run.
func dice() *rand.Rand { return rand.New(rand.NewPCG(13, 18)) }

func pick[T any](r *rand.Rand, l ...T) T { return l[r.IntN(len(l))] }

// cut is a number of w bits.
func cut(w int, hi, lo uint64) api.Bits {
	if w <= 64 {
		return api.Bits{W: w, Lo: lo & (1<<w - 1)}
	}
	return api.Bits{W: w, Hi: hi & (1<<(w-64) - 1), Lo: lo}
}

// number is one of w bits; often one of a few.
func number(r *rand.Rand, w int) api.Bits {
	hi, lo := r.Uint64(), r.Uint64()
	return pick(r, cut(w, 0, 0), cut(w, 0, 1), cut(w, math.MaxUint64, math.MaxUint64), cut(w, hi, lo), cut(w, hi, lo), cut(w, 0, lo%4))
}

func madeTable(r *rand.Rand) match.Table {
	t := match.Table{Size: pick(r, 1, 2, 3, 4, 5, 4096)}
	kinds := pick(r, []api.KeyKind{api.KeExact}, []api.KeyKind{api.KeExact, api.KePrefix}, []api.KeyKind{api.KeExact, api.KePrefix, api.KeMask, api.KeRange})
	for range pick(r, 0, 1, 1, 2, 3, 5) {
		k := pick(r, kinds...)
		if k == api.KePrefix && slices.Contains(t.Kinds, k) {
			k = api.KeExact
		}
		t.Kinds, t.Widths = append(t.Kinds, k), append(t.Widths, pick(r, 1, 2, 2, 3, 8, 63, 64, 65, 127, 128))
	}
	return t
}

func madeMatch(r *rand.Rand, kind api.KeyKind, w int) api.Match {
	m := api.Match{Value: number(r, w)}
	other := number(r, w)
	switch kind {
	case api.KePrefix:
		m.Len = pick(r, 0, 1, w-1, w, r.IntN(w+1))
		behind := api.Bits{}
		if m.Len < w {
			behind = cut(w-m.Len, math.MaxUint64, math.MaxUint64)
		}
		m.Value.Hi &^= behind.Hi
		m.Value.Lo &^= behind.Lo
	case api.KeMask:
		m.Mask = other
		m.Value.Hi &= other.Hi
		m.Value.Lo &= other.Lo
	case api.KeRange:
		m.Mask = other
		if digits(m.Value) > digits(m.Mask) {
			m.Value, m.Mask = m.Mask, m.Value
		}
	}
	return m
}

// madeEntry may be the table's.
func madeEntry(r *rand.Rand, t match.Table) api.Entry {
	e := api.Entry{Action: pick(r, "", "a", "b")}
	for i, k := range t.Kinds {
		e.Matches = append(e.Matches, madeMatch(r, k, t.Widths[i]))
	}
	if modelWeighs(t) {
		e.Priority = pick(r, 1, 2, 3, math.MaxInt32)
	}
	for range r.IntN(3) {
		e.Args = append(e.Args, number(r, 1+r.IntN(128)))
	}
	return e
}

func madeKeys(r *rand.Rand, t match.Table, l []api.Entry) []api.Bits {
	var keys []api.Bits
	e := madeEntry(r, t)
	if len(l) > 0 {
		e = pick(r, l...)
	}
	for i, w := range t.Widths {
		k := number(r, w)
		if i < len(e.Matches) && e.Matches[i].Value.W == w && r.IntN(4) > 0 {
			k = e.Matches[i].Value
			if r.IntN(3) == 0 {
				k = cut(w, k.Hi, k.Lo^1<<r.IntN(64))
			}
		}
		keys = append(keys, k)
	}
	return keys
}

// anyInt is often one next to a bound.
func anyInt(r *rand.Rand) int {
	return pick(r, 0, 1, -1, 2, 7, 8, 9, 63, 64, 65, 127, 128, 129, 4095, 4096, 4097, math.MaxInt32, math.MaxInt32+1, math.MinInt, math.MaxInt, r.IntN(300)-100)
}

func anyBits(r *rand.Rand) api.Bits {
	if r.IntN(2) == 0 {
		return api.Bits{W: anyInt(r), Hi: pick(r, 0, 0, r.Uint64()), Lo: pick(r, 0, 1, r.Uint64())}
	}
	return number(r, 1+r.IntN(128))
}

// spoilTable, spoilEntry, spoilMatch make one thing another; it may be nevertheless.
func spoilTable(r *rand.Rand, t *match.Table) {
	at := -1
	if n := min(len(t.Kinds), len(t.Widths)); n > 0 {
		at = r.IntN(n)
	}
	switch n := r.IntN(7); {
	case n == 0:
		t.Size = anyInt(r)
	case n == 1 && at >= 0:
		t.Widths[at] = anyInt(r)
	case n == 2 && at >= 0:
		t.Kinds[at] = api.KeyKind(pick(r, r.IntN(7), r.IntN(256)))
	case n == 3 && at >= 0:
		t.Kinds = t.Kinds[:at]
	case n == 4 && at >= 0:
		t.Widths = t.Widths[:at]
	case n == 5:
		t.Kinds, t.Widths = append(t.Kinds, api.KeyKind(1+r.IntN(4))), append(t.Widths, 8)
	case n == 6:
		for range pick(r, 1, 63, 64, 65) {
			t.Kinds, t.Widths = append(t.Kinds, api.KeExact), append(t.Widths, 8)
		}
	}
}

func spoilMatch(r *rand.Rand, m *api.Match) {
	switch r.IntN(6) {
	case 0:
		m.Value = anyBits(r)
	case 1:
		m.Mask = anyBits(r)
	case 2:
		m.Len = anyInt(r)
	case 3:
		m.Value.Lo ^= 1 << r.IntN(64)
	case 4:
		m.Mask = pick(r, api.Bits{}, m.Value, number(r, max(1, min(128, m.Value.W))))
	case 5:
		m.Len += pick(r, -1, 1)
	}
}

func spoilEntry(r *rand.Rand, e *api.Entry) {
	switch n := r.IntN(8); {
	case n == 0:
		e.Priority = anyInt(r)
	case n == 1:
		e.Args = append(e.Args, anyBits(r))
	case n == 2 && len(e.Matches) > 0:
		e.Matches = e.Matches[:r.IntN(len(e.Matches))]
	case n == 3:
		e.Matches = append(e.Matches, api.Match{Value: anyBits(r)})
	case len(e.Matches) > 0:
		spoilMatch(r, &e.Matches[r.IntN(len(e.Matches))])
	}
}

// ask holds all calls against the model.
func ask(t *testing.T, x match.Table, l []api.Entry, e api.Entry, keys []api.Bits) {
	t.Helper()
	if got, want := match.Check(x, e), modelCheck(x, e); got != want {
		t.Fatalf("Check(%+v, %+v) = %d, want %d (%q)", x, e, got, want, tableFaults(x))
	}
	for _, c := range changes {
		got, f := c.do(x, l, e)
		want, g := modelChange(c.kind, x, l, e)
		if f != g || !same(got, want) {
			t.Fatalf("%s(%+v, %+v, %+v) = %+v, %d, want %+v, %d", c.name, x, l, e, got, f, want, g)
		}
	}
	if got, want := match.Find(x, l, keys), modelFind(x, l, keys); got != want {
		t.Fatalf("Find(%+v, %+v, %+v) = %d, want %d", x, l, keys, got, want)
	}
}

func TestModel(t *testing.T) { // P13.1, P13.2, P13.3
	r := dice()
	seen := map[string]int{}
	for n := range 60000 {
		x := madeTable(r)
		var l []api.Entry
		for range r.IntN(7) {
			l = append(l, madeEntry(r, x))
		}
		e := madeEntry(r, x)
		if len(l) > 0 && r.IntN(2) == 0 {
			e = copied(pick(r, l...), 0)
			e.Action, e.Args = "z", []api.Bits{number(r, 9)}
		}
		if n%3 == 0 {
			for range 1 + r.IntN(3) {
				spoilEntry(r, &e)
			}
		}
		if n%4 == 0 && len(l) > 0 {
			for range 1 + r.IntN(4) {
				spoilEntry(r, &l[r.IntN(len(l))])
			}
		}
		keys := madeKeys(r, x, l)
		if n%5 == 0 {
			spoilTable(r, &x)
		}
		if n%7 == 0 && len(keys) > 0 {
			keys[r.IntN(len(keys))] = anyBits(r)
		}
		if n%11 == 0 {
			keys = append(keys, number(r, 8))[:r.IntN(len(keys)+2)]
		}
		ask(t, x, l, e, keys)
		seen[fmt.Sprint("Check ", int(match.Check(x, e)))]++
		seen[fmt.Sprint("Find ", min(match.Find(x, l, keys), 1))]++
		for _, c := range changes {
			_, f := c.do(x, l, e)
			seen[fmt.Sprint(c.name, " ", int(f))]++
		}
	}
	for _, what := range []string{"Check 0", "Check 1", "Find -1", "Find 0", "Find 1", "Insert 0", "Insert 1", "Insert 10", "Insert 12", "Modify 0", "Modify 11", "Delete 0", "Delete 11"} {
		if seen[what] < 2000 {
			t.Errorf("%s came about %d times", what, seen[what])
		}
	}
}

// TestAnything: none panics, whatever it is given.
func TestAnything(t *testing.T) { // R1
	r := dice()
	for range 20000 {
		var x match.Table
		for range pick(r, 0, 1, 2, 3) {
			x.Kinds = append(x.Kinds, api.KeyKind(pick(r, r.IntN(6), r.IntN(256))))
		}
		for range pick(r, len(x.Kinds), len(x.Kinds), r.IntN(4)) {
			x.Widths = append(x.Widths, pick(r, anyInt(r), 8))
		}
		x.Size = pick(r, anyInt(r), 4)
		entry := func() api.Entry {
			e := api.Entry{Priority: pick(r, 0, 1, anyInt(r)), Action: "a"}
			for range pick(r, len(x.Kinds), r.IntN(4)) {
				e.Matches = append(e.Matches, api.Match{Value: anyBits(r), Mask: pick(r, api.Bits{}, anyBits(r)), Len: pick(r, 0, anyInt(r))})
			}
			for range r.IntN(2) {
				e.Args = append(e.Args, anyBits(r))
			}
			return e
		}
		l := []api.Entry{entry(), entry(), entry()}[:r.IntN(4)]
		var keys []api.Bits
		for range pick(r, len(x.Kinds), r.IntN(4)) {
			keys = append(keys, pick(r, anyBits(r), number(r, 8)))
		}
		ask(t, x, l, entry(), keys)
	}
}
