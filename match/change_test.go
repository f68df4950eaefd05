package match_test

import (
	"fmt"
	"math"
	"slices"
	"testing"

	"pointsman/api"
	"pointsman/match"
)

// changed asks for what a call says, and the model.
func changed(t *testing.T, kind api.UpdateKind, x match.Table, l []api.Entry, e api.Entry, want []api.Entry, fault api.Errno) {
	t.Helper()
	c := changes[slices.IndexFunc(changes, func(c change) bool { return c.kind == kind })]
	if got, f := c.do(x, l, e); f != fault || !same(got, want) {
		t.Fatalf("%s(%s) = %s, %d, want %s, %d", c.name, brief(x, l, e), brief(got), f, brief(want), fault)
	}
	if got, f := modelChange(kind, x, l, e); f != fault || !same(got, want) {
		t.Fatalf("%s(%s): the model says %s, %d, want %s, %d", c.name, brief(x, l, e), brief(got), f, brief(want), fault)
	}
}

func TestInsert(t *testing.T) { // P13.2
	x := table(3, 8, api.KeRange)
	a, b, c, d := entry(1, pair(1, 2)), entry(1, pair(1, 3)), entry(2, pair(1, 2)), entry(1, pair(0, 2))
	var l []api.Entry
	for _, e := range []api.Entry{a, b, c} {
		want := append(slices.Clone(l), e)
		changed(t, api.UpInsert, x, l, e, want, api.OK)
		l = want
	}
	for _, e := range l {
		// That it is there comes ahead of no room.
		changed(t, api.UpInsert, x, l, e, nil, api.ErrThere)
		e.Action, e.Args = "other", []api.Bits{eight(1)}
		changed(t, api.UpInsert, x, l, e, nil, api.ErrThere)
	}
	changed(t, api.UpInsert, x, l, d, nil, api.ErrFull)
	changed(t, api.UpInsert, table(2, 8, api.KeRange), l, d, nil, api.ErrFull)
	changed(t, api.UpInsert, table(4, 8, api.KeRange), l, d, []api.Entry{a, b, c, d}, api.OK)
	changed(t, api.UpInsert, table(3, 8, api.KeRange), l[:2], d, []api.Entry{a, b, d}, api.OK)
	// What may not be comes ahead of all.
	changed(t, api.UpInsert, x, l, entry(0, pair(1, 2)), nil, api.ErrArg)
	changed(t, api.UpInsert, table(0, 8, api.KeRange), l, a, nil, api.ErrArg)
	withArgs := api.Entry{Matches: []api.Match{pair(7, 7)}, Priority: math.MaxInt32, Action: "f", Args: []api.Bits{num(1, 1), full(128)}}
	changed(t, api.UpInsert, x, nil, withArgs, []api.Entry{withArgs}, api.OK)
	changed(t, api.UpInsert, x, []api.Entry{withArgs}, a, []api.Entry{withArgs, a}, api.OK)
}

// TestFull: a table of MaxCells entries.
func TestFull(t *testing.T) { // P13.2
	x := table(api.MaxCells, 16, api.KeExact)
	var l []api.Entry
	for n := range api.MaxCells {
		l = append(l, entry(0, api.Match{Value: num(16, uint64(n))}))
	}
	last, more := l[api.MaxCells-1], entry(0, api.Match{Value: num(16, api.MaxCells)})
	if got, e := match.Insert(x, l[:api.MaxCells-1], last); e != api.OK || !same(got, l) {
		t.Errorf("the last entry: %d entries, %d", len(got), e)
	}
	if got, e := match.Insert(x, l, more); e != api.ErrFull || len(got) > 0 {
		t.Errorf("one more: %d entries, %d", len(got), e)
	}
	if got, e := match.Insert(x, l, last); e != api.ErrThere || len(got) > 0 {
		t.Errorf("the last one again: %d entries, %d", len(got), e)
	}
	for n := range l {
		if at := match.Find(x, l, []api.Bits{num(16, uint64(n))}); at != n {
			t.Errorf("Find = %d, want %d", at, n)
		}
	}
	finds(t, x, l, -1, num(16, api.MaxCells))
	// More than there may be are gone through nevertheless.
	l = append(l, more)
	finds(t, x, l, api.MaxCells, num(16, api.MaxCells))
	if got, e := match.Delete(x, l, more); e != api.OK || !same(got, l[:api.MaxCells]) {
		t.Errorf("Delete: %d entries, %d", len(got), e)
	}
	if got, e := match.Modify(x, l, more); e != api.OK || !same(got, l) {
		t.Errorf("Modify: %d entries, %d", len(got), e)
	}
}

func TestModify(t *testing.T) { // P13.2
	x := table(2, 8, api.KePrefix)
	a, b, c := entry(0, prefix(0x80, 1)), entry(0, prefix(0x80, 2)), entry(0, prefix(0x80, 3))
	other := func(e api.Entry) api.Entry {
		e.Action, e.Args = "z", []api.Bits{eight(3), num(1, 0)}
		return e
	}
	for _, l := range [][]api.Entry{{a, b, c}, {other(a), other(b), other(c)}} {
		for i, e := range []api.Entry{a, b, c} {
			for _, e := range []api.Entry{e, other(e)} {
				want := slices.Clone(l)
				want[i] = e
				changed(t, api.UpModify, x, l, e, want, api.OK)
			}
		}
	}
	changed(t, api.UpModify, x, nil, a, nil, api.ErrGone)
	changed(t, api.UpModify, x, []api.Entry{b, c}, a, nil, api.ErrGone)
	changed(t, api.UpModify, x, []api.Entry{a}, entry(0, prefix(0x81, 1)), nil, api.ErrArg)
	changed(t, api.UpModify, table(4097, 8, api.KePrefix), []api.Entry{a}, a, nil, api.ErrArg)
	// The first one of several.
	changed(t, api.UpModify, x, []api.Entry{b, a, a, b}, other(a), []api.Entry{b, other(a), a, b}, api.OK)
}

func TestDelete(t *testing.T) { // P13.2
	x := table(2, 8, api.KePrefix)
	a, b, c := entry(0, prefix(0x80, 1)), entry(0, prefix(0x80, 2)), entry(0, prefix(0x80, 3))
	l := []api.Entry{a, b, c}
	changed(t, api.UpDelete, x, l, a, []api.Entry{b, c}, api.OK)
	changed(t, api.UpDelete, x, l, b, []api.Entry{a, c}, api.OK)
	changed(t, api.UpDelete, x, l, c, []api.Entry{a, b}, api.OK)
	changed(t, api.UpDelete, x, l[:1], a, nil, api.OK)
	changed(t, api.UpDelete, x, l[1:], a, nil, api.ErrGone)
	changed(t, api.UpDelete, x, nil, a, nil, api.ErrGone)
	changed(t, api.UpDelete, x, l, entry(1, prefix(0x80, 1)), nil, api.ErrArg)
	changed(t, api.UpDelete, table(-1, 8, api.KePrefix), l, a, nil, api.ErrArg)
	// What it does makes no difference to its place; the first one of several goes.
	named := api.Entry{Matches: a.Matches, Action: "z", Args: []api.Bits{eight(3)}}
	changed(t, api.UpDelete, x, l, named, []api.Entry{b, c}, api.OK)
	changed(t, api.UpDelete, x, []api.Entry{b, named, a}, a, []api.Entry{b, a}, api.OK)
	changed(t, api.UpDelete, x, []api.Entry{b, a, named}, named, []api.Entry{b, named}, api.OK)
}

// TestPlace: entries are of one place if their matches and their priority are the same, whatever else is in a list.
func TestPlace(t *testing.T) { // P13.2
	x := match.Table{Kinds: []api.KeyKind{api.KeMask, api.KePrefix, api.KeExact}, Widths: []int{8, 8, 128}, Size: 9}
	whole := api.Entry{
		Matches:  []api.Match{pair(1, 3), prefix(0x40, 2), {Value: api.Bits{W: 128, Hi: 5, Lo: 6}}},
		Priority: 3, Action: "f", Args: []api.Bits{eight(1)},
	}
	type edit struct {
		same bool
		do   func(e *api.Entry)
	}
	edits := []edit{
		{true, func(e *api.Entry) {}},
		{true, func(e *api.Entry) { e.Action = "" }},
		{true, func(e *api.Entry) { e.Args = nil }},
		{true, func(e *api.Entry) { e.Args = append(e.Args, api.Bits{W: 1, Lo: 9}) }},
		{false, func(e *api.Entry) { e.Priority = 2 }},
		{false, func(e *api.Entry) { e.Priority = -3 }},
		{false, func(e *api.Entry) { e.Matches = nil }},
		{false, func(e *api.Entry) { e.Matches = e.Matches[:2] }},
		{false, func(e *api.Entry) { e.Matches = append(e.Matches, api.Match{}) }},
		{false, func(e *api.Entry) { slices.Reverse(e.Matches) }},
	}
	for i := range whole.Matches {
		for _, turn := range []func(m *api.Match){
			func(m *api.Match) { m.Value.Lo ^= 1 }, func(m *api.Match) { m.Value.Hi++ }, func(m *api.Match) { m.Value.W++ }, func(m *api.Match) { m.Value = api.Bits{} },
			func(m *api.Match) { m.Mask.Lo ^= 4 }, func(m *api.Match) { m.Mask.Hi++ }, func(m *api.Match) { m.Mask.W-- },
			func(m *api.Match) { m.Len++ }, func(m *api.Match) { m.Len = -1 },
		} {
			edits = append(edits, edit{false, func(e *api.Entry) { turn(&e.Matches[i]) }})
		}
	}
	for _, c := range edits {
		near := copied(whole, 0)
		c.do(&near)
		l := []api.Entry{near}
		other := whole
		other.Action, other.Args = "g", nil
		if c.same {
			changed(t, api.UpInsert, x, l, other, nil, api.ErrThere)
			changed(t, api.UpModify, x, l, other, []api.Entry{other}, api.OK)
			changed(t, api.UpDelete, x, l, other, nil, api.OK)
			continue
		}
		changed(t, api.UpInsert, x, l, other, []api.Entry{near, other}, api.OK)
		changed(t, api.UpModify, x, l, other, nil, api.ErrGone)
		changed(t, api.UpDelete, x, l, other, nil, api.ErrGone)
		changed(t, api.UpModify, x, []api.Entry{near, whole, near}, other, []api.Entry{near, other, near}, api.OK)
		changed(t, api.UpDelete, x, []api.Entry{near, whole, near}, other, []api.Entry{near, near}, api.OK)
	}
}

// TestPlaceOfNoKeys: a table of no keys has one place.
func TestPlaceOfNoKeys(t *testing.T) { // P13.2, R4
	x := table(2, 8)
	l := []api.Entry{{Action: "a"}}
	for _, e := range []api.Entry{{Action: "b"}, {Matches: []api.Match{}, Action: "b", Args: []api.Bits{}}} {
		changed(t, api.UpInsert, x, nil, e, []api.Entry{{Action: "b"}}, api.OK)
		changed(t, api.UpInsert, x, l, e, nil, api.ErrThere)
		changed(t, api.UpModify, x, l, e, []api.Entry{{Action: "b"}}, api.OK)
		changed(t, api.UpDelete, x, l, e, nil, api.OK)
		changed(t, api.UpDelete, x, []api.Entry{}, e, nil, api.ErrGone)
	}
}

// TestManyChanges: one behind the other, over what the calls answer themselves.
func TestManyChanges(t *testing.T) { // P13.2
	r := dice()
	seen := map[string]int{}
	for range 300 {
		x := madeTable(r)
		x.Size = pick(r, 1, 2, 3, 5, 8, 40)
		var l, want []api.Entry
		for range 60 {
			e := madeEntry(r, x)
			if len(l) > 0 && r.IntN(2) == 0 {
				e.Matches = slices.Clone(pick(r, l...).Matches)
			}
			c := pick(r, changes...)
			got, f := c.do(x, l, e)
			model, g := modelChange(c.kind, x, want, e)
			if f != g || !same(got, model) {
				t.Fatalf("%s(%+v, %+v, %+v) = %+v, %d, want %+v, %d", c.name, x, l, e, got, f, model, g)
			}
			if f == api.OK {
				l, want = got, model
			}
			seen[fmt.Sprint(c.name, " ", int(f))]++
		}
	}
	for _, what := range []string{"Insert 0", "Insert 10", "Insert 12", "Modify 0", "Modify 11", "Delete 0", "Delete 11"} {
		if seen[what] < 100 {
			t.Errorf("%s came about %d times", what, seen[what])
		}
	}
}
