// Package worlds is what passes, by the tree and by the code, updates, and a state that keeps a world ask of it alike: whether it is a program's, what its tables may have, a copy that may change, and its cells one by one.
package worlds

import (
	"slices"

	"pointsman/api"
)

// Copied: the world in memory of its own.
func Copied(w api.World) api.World {
	w.Tables = slices.Clone(w.Tables)
	for i := range w.Tables {
		r := &w.Tables[i]
		r.Entries, r.Args = CopiedEntries(r.Entries), slices.Clone(r.Args)
	}
	w.Arrays = slices.Clone(w.Arrays)
	for i := range w.Arrays {
		a := &w.Arrays[i]
		a.Cells, a.Last = slices.Clone(a.Cells), slices.Clone(a.Last)
	}
	w.Groups = slices.Clone(w.Groups)
	for i := range w.Groups {
		w.Groups[i].Ports = slices.Clone(w.Groups[i].Ports)
	}
	return w
}

// CopiedEntries: likewise.
func CopiedEntries(l []api.Entry) []api.Entry {
	l = slices.Clone(l)
	for i := range l {
		l[i].Matches, l[i].Args = slices.Clone(l[i].Matches), slices.Clone(l[i].Args)
	}
	return l
}
