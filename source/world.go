package source

import (
	"cmp"
	"slices"

	"pointsman/api"
	"pointsman/bits"
	"pointsman/cells"
	"pointsman/match"
)

// own: is the world the program's?
func (n *names) own(w api.World) bool {
	return w.Now >= 0 && groupsMayBe(w.Groups) && n.ownArrays(w.Arrays) && n.ownTables(w.Tables)
}

func groupsMayBe(l []api.Group) bool {
	return len(l) == api.MaxGroup && !slices.ContainsFunc(l, func(g api.Group) bool {
		return len(g.Ports) > api.MaxGroup || slices.ContainsFunc(g.Ports, func(port int) bool { return !from(0, port, maxPort) })
	})
}

func (n *names) ownArrays(l []api.Array) bool {
	return slices.EqualFunc(l, cells.New(n.program), alike) && cells.Check(l)
}

// alike: are arrays the same but for what is in their cells?
func alike(a, b api.Array) bool {
	return a.Name == b.Name && a.Kind == b.Kind && a.W == b.W && a.Rate == b.Rate && a.Burst == b.Burst && len(a.Cells) == len(b.Cells)
}

func (n *names) ownTables(l []api.Rows) bool {
	// How wide keys are, is told by what they are in a pass that has just begun: types.Width would go through the whole program for each of them.
	blank := n.blank()
	return slices.EqualFunc(l, n.tables, func(r api.Rows, d *api.Decl) bool {
		return r.Name == d.Name && n.canDo(d, r.Default, r.Args) && n.ownEntries(d, tableOf(d, blank.keys(d)), r.Entries)
	})
}

func (n *names) ownEntries(d *api.Decl, t match.Table, l []api.Entry) bool {
	return len(l) <= d.N && apart(l) && !slices.ContainsFunc(l, func(e api.Entry) bool {
		return match.Check(t, e) != api.OK || !n.canDo(d, e.Action, e.Args)
	})
}

// canDo: has the table that action, and are these args as wide as its params?
func (n *names) canDo(table *api.Decl, action string, args []api.Bits) bool {
	return slices.Contains(table.Actions, action) && slices.EqualFunc(args, n.decls[action].Fields, func(b api.Bits, f api.Field) bool {
		return b.W == f.W && bits.Check(b)
	})
}

// apart: are no two entries of one place? Those that are would be neighbours when they are sorted: to hold each against each takes too long.
func apart(l []api.Entry) bool {
	sorted := slices.SortedFunc(slices.Values(l), byPlace)
	for i := 1; i < len(sorted); i++ {
		if byPlace(sorted[i-1], sorted[i]) == 0 {
			return false
		}
	}
	return true
}

func byPlace(a, b api.Entry) int {
	return cmp.Or(cmp.Compare(a.Priority, b.Priority), slices.CompareFunc(a.Matches, b.Matches, byMatch))
}

func byMatch(a, b api.Match) int {
	return cmp.Or(byBits(a.Value, b.Value), byBits(a.Mask, b.Mask), cmp.Compare(a.Len, b.Len))
}

func byBits(a, b api.Bits) int {
	return cmp.Or(cmp.Compare(a.W, b.W), cmp.Compare(a.Hi, b.Hi), cmp.Compare(a.Lo, b.Lo))
}

// tableOf is how a table matches keys that are as wide as these.
func tableOf(d *api.Decl, keys []api.Bits) match.Table {
	t := match.Table{Size: d.N}
	for i, k := range keys {
		t.Kinds = append(t.Kinds, d.Keys[i].Kind)
		t.Widths = append(t.Widths, k.W)
	}
	return t
}

// copied is the world in memory of its own: a pass changes its cells, and answers it.
func copied(w api.World) api.World {
	w.Tables = slices.Clone(w.Tables)
	for i := range w.Tables {
		r := &w.Tables[i]
		r.Entries, r.Args = copiedEntries(r.Entries), slices.Clone(r.Args)
	}
	w.Arrays = slices.Clone(w.Arrays)
	for i := range w.Arrays {
		a := &w.Arrays[i]
		a.Cells, a.Last = slices.Clone(a.Cells), slices.Clone(a.Last)
	}
	w.Groups = slices.Clone(w.Groups)
	for i := range w.Groups {
		w.Groups[i].Ports = slices.Clone(w.Groups[i].Ports)
	}
	return w
}

func copiedEntries(l []api.Entry) []api.Entry {
	l = slices.Clone(l)
	for i := range l {
		l[i].Matches, l[i].Args = slices.Clone(l[i].Matches), slices.Clone(l[i].Args)
	}
	return l
}
