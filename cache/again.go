package cache

import (
	"maps"
	"slices"

	"pointsman/api"
	"pointsman/exec"
	"pointsman/worlds"
)

// defaultRow is the place of the row that counts where no entry matches.
const defaultRow = -1

// several stands in for the places of a table's rows, if it was asked more than once and not the same one counted. By the code of a program no table is asked twice.
const several = -2

// rowsOf tells of the tables that were asked which row of each one counted.
func rowsOf(l []api.Effect) map[string]int {
	rows := map[string]int{}
	for _, e := range l {
		if e.Kind != api.EfHit {
			continue
		}
		at, known := rows[e.Table]
		if known && at != e.Entry {
			rows[e.Table] = several
		} else {
			rows[e.Table] = e.Entry
		}
	}
	maps.DeleteFunc(rows, func(_ string, at int) bool { return at == several })
	return rows
}

// doneBy is a pass with rows of which it is known that they count.
func doneBy(rows map[string]int) func(a *asked) (api.Pass, api.World, api.Errno) {
	return func(a *asked) (api.Pass, api.World, api.Errno) {
		w := a.world
		w.Tables = shortened(w.Tables, rows)
		pass, behind, _, e := exec.Run(a.program, a.code, w, a.port, a.bytes)
		if e != api.OK {
			return api.Pass{}, api.World{}, e
		}
		tellRows(pass.Effects, rows)
		behind.Tables = worlds.Copied(api.World{Tables: a.world.Tables}).Tables
		return pass, behind, api.OK
	}
}

// shortened are tables of which those whose row is known have nothing else, so that nothing is looked up in them.
func shortened(l []api.Rows, rows map[string]int) []api.Rows {
	l = slices.Clone(l)
	for i, t := range l {
		if at, known := rows[t.Name]; known {
			l[i] = alone(t, at)
		}
	}
	return l
}

// alone is a table with one of its rows as its default, and no entries.
func alone(t api.Rows, at int) api.Rows {
	if at == defaultRow {
		return api.Rows{Name: t.Name, Default: t.Default, Args: t.Args}
	}
	e := t.Entries[at]
	return api.Rows{Name: t.Name, Default: e.Action, Args: e.Args}
}

// tellRows gives hits the places that the rows have in the tables as they are. (Effects of other kinds tell no table.)
func tellRows(l []api.Effect, rows map[string]int) {
	for i, e := range l {
		if at, known := rows[e.Table]; known {
			l[i].Entry = at
		}
	}
}
