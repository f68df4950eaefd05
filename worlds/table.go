package worlds

import (
	"slices"

	"pointsman/api"
	"pointsman/bits"
	"pointsman/match"
)

// Table is one of a program: how it matches, and what its rows may do.
type Table struct {
	match.Table
	Name    string
	own     []string             // actions that it has
	actions map[string]*api.Decl // all of the program
}

// Tables are those of a program, in order. The program must be one that may be.
func Tables(p api.Program) []Table { return ownerOf(p).tables() }

// CanDo: ErrName, if the table has no such action; ErrWidth, if the args are not as many, or as wide, as its params.
func (t *Table) CanDo(action string, args []api.Bits) api.Errno {
	if !slices.Contains(t.own, action) {
		return api.ErrName
	}
	if !slices.EqualFunc(args, t.actions[action].Fields, fits) {
		return api.ErrWidth
	}
	return api.OK
}

// fits: can a number be a param's? What has bits above its width is of no width at all.
func fits(b api.Bits, param api.Field) bool { return b.W == param.W && bits.Check(b) }

func (t *Table) owns(r api.Rows) bool {
	return r.Name == t.Name && t.CanDo(r.Default, r.Args) == api.OK && t.ownsEntries(r.Entries)
}

func (t *Table) ownsEntries(l []api.Entry) bool {
	return len(l) <= t.Size && apart(l) && !slices.ContainsFunc(l, func(e api.Entry) bool {
		return match.Check(t.Table, e) != api.OK || t.CanDo(e.Action, e.Args) != api.OK
	})
}
