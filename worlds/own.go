package worlds

import (
	"cmp"
	"slices"

	"pointsman/api"
	"pointsman/cells"
)

// maxPort is the greatest port that there is.
const maxPort = 65535

// Own: is a world the program's? The program must be one that may be.
func Own(p api.Program, w api.World) bool {
	o := ownerOf(p)
	return w.Now >= 0 && groupsMayBe(w.Groups) && o.ownsArrays(w.Arrays) && o.ownsTables(w.Tables)
}

// IsPort: is there such a port?
func IsPort(n int) bool { return 0 <= n && n <= maxPort }

// ArePorts: may a group have them?
func ArePorts(l []int) bool {
	return len(l) <= api.MaxGroup && !slices.ContainsFunc(l, func(n int) bool { return !IsPort(n) })
}

func groupsMayBe(l []api.Group) bool {
	return len(l) == api.MaxGroup && !slices.ContainsFunc(l, func(g api.Group) bool { return !ArePorts(g.Ports) })
}

func (o *owner) ownsArrays(l []api.Array) bool {
	return slices.EqualFunc(l, cells.New(o.program), alike) && cells.Check(l)
}

// alike: are arrays the same but for what is in their cells?
func alike(a, b api.Array) bool {
	return a.Name == b.Name && a.Kind == b.Kind && a.W == b.W && a.Rate == b.Rate && a.Burst == b.Burst && len(a.Cells) == len(b.Cells)
}

func (o *owner) ownsTables(l []api.Rows) bool {
	return slices.EqualFunc(l, o.tables(), func(r api.Rows, t Table) bool { return t.owns(r) })
}

// apart: are no two entries of one place? Those that are would be neighbours when they are sorted: to hold each against each takes too long.
func apart(l []api.Entry) bool {
	sorted := slices.SortedFunc(slices.Values(l), byPlace)
	for i := 1; i < len(sorted); i++ {
		if byPlace(sorted[i-1], sorted[i]) == 0 {
			return false
		}
	}
	return true
}

func byPlace(a, b api.Entry) int {
	return cmp.Or(cmp.Compare(a.Priority, b.Priority), slices.CompareFunc(a.Matches, b.Matches, byMatch))
}

func byMatch(a, b api.Match) int {
	return cmp.Or(byBits(a.Value, b.Value), byBits(a.Mask, b.Mask), cmp.Compare(a.Len, b.Len))
}

func byBits(a, b api.Bits) int {
	return cmp.Or(cmp.Compare(a.W, b.W), cmp.Compare(a.Hi, b.Hi), cmp.Compare(a.Lo, b.Lo))
}
