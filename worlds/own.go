package worlds

import (
	"cmp"
	"slices"

	"pointsman/api"
	"pointsman/bits"
	"pointsman/cells"
	"pointsman/match"
)

// maxPort is the greatest port that there is.
const maxPort = 65535

// Own: is a world the program's? The program must be one that may be.
func Own(p api.Program, w api.World) bool {
	o := ownerOf(p)
	return w.Now >= 0 && groupsMayBe(w.Groups) && o.ownsArrays(w.Arrays) && o.ownsTables(w.Tables)
}

// IsPort: is there such a port?
func IsPort(n int) bool { return 0 <= n && n <= maxPort }

func groupsMayBe(l []api.Group) bool {
	return len(l) == api.MaxGroup && !slices.ContainsFunc(l, func(g api.Group) bool {
		return len(g.Ports) > api.MaxGroup || slices.ContainsFunc(g.Ports, func(port int) bool { return !IsPort(port) })
	})
}

func (o *owner) ownsArrays(l []api.Array) bool {
	return slices.EqualFunc(l, cells.New(o.program), alike) && cells.Check(l)
}

// alike: are arrays the same but for what is in their cells?
func alike(a, b api.Array) bool {
	return a.Name == b.Name && a.Kind == b.Kind && a.W == b.W && a.Rate == b.Rate && a.Burst == b.Burst && len(a.Cells) == len(b.Cells)
}

func (o *owner) ownsTables(l []api.Rows) bool {
	return slices.EqualFunc(l, o.tables, func(r api.Rows, d *api.Decl) bool {
		return r.Name == d.Name && o.canDo(d, r.Default, r.Args) && o.ownsEntries(d, r.Entries)
	})
}

func (o *owner) ownsEntries(d *api.Decl, l []api.Entry) bool {
	t := o.table(d)
	return len(l) <= d.N && apart(l) && !slices.ContainsFunc(l, func(e api.Entry) bool {
		return match.Check(t, e) != api.OK || !o.canDo(d, e.Action, e.Args)
	})
}

// canDo: has the table that action, and are these args as wide as its params?
func (o *owner) canDo(table *api.Decl, action string, args []api.Bits) bool {
	return slices.Contains(table.Actions, action) && slices.EqualFunc(args, o.actions[action].Fields, func(b api.Bits, f api.Field) bool {
		return b.W == f.W && bits.Check(b)
	})
}

// apart: are no two entries of one place? Those that are would be neighbours when they are sorted: to hold each against each takes too long.
func apart(l []api.Entry) bool {
	sorted := slices.SortedFunc(slices.Values(l), byPlace)
	for i := 1; i < len(sorted); i++ {
		if byPlace(sorted[i-1], sorted[i]) == 0 {
			return false
		}
	}
	return true
}

func byPlace(a, b api.Entry) int {
	return cmp.Or(cmp.Compare(a.Priority, b.Priority), slices.CompareFunc(a.Matches, b.Matches, byMatch))
}

func byMatch(a, b api.Match) int {
	return cmp.Or(byBits(a.Value, b.Value), byBits(a.Mask, b.Mask), cmp.Compare(a.Len, b.Len))
}

func byBits(a, b api.Bits) int {
	return cmp.Or(cmp.Compare(a.W, b.W), cmp.Compare(a.Hi, b.Hi), cmp.Compare(a.Lo, b.Lo))
}
