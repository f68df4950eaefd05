package rules

import (
	"slices"

	"pointsman/api"
	"pointsman/match"
	"pointsman/worlds"
)

// lastKind is the last one of the kinds of updates.
const lastKind = api.UpGroup

// batch is updates that are done one behind the other. Its world is its own, so that it can be left in the midst of what is done.
type batch struct {
	tables []worlds.Table // in the order in which the world has their rows
	world  api.World
	at     int // the place of the table that the update names, once it is found
}

// deed is a part of what is done with an update.
type deed func(u *api.Update) api.Errno

func begin(p api.Program, w api.World) *batch {
	return &batch{tables: worlds.Tables(p), world: worlds.Copied(w)}
}

// do answers the first error of an update, and its place.
func (b *batch) do(l []api.Update) (int, api.Errno) {
	at, fault := 0, api.OK
	deeds := b.deeds()
updates:
	for i := range l {
		for _, do := range deeds[kindOf(l[i])] {
			if fault = do(&l[i]); fault != api.OK {
				at = i
				break updates
			}
		}
	}
	return at, fault
}

// deeds are what is done with updates of each kind, in the order in which the errors count. (What package match does to entries begins with its Check; where the action counts between the two, check stands ahead of it.)
func (b *batch) deeds() [lastKind + 1][]deed {
	return [lastKind + 1][]deed{
		api.UpNone:    {b.refuse},
		api.UpInsert:  {b.find, b.check, b.canDo, b.insert},
		api.UpModify:  {b.find, b.check, b.canDo, b.modify},
		api.UpDelete:  {b.find, b.remove},
		api.UpDefault: {b.find, b.canDo, b.setDefault},
		api.UpGroup:   {b.setPorts},
	}
}

// kindOf is an update's kind; UpNone, if it has something that its kind does not name, or is of no kind that there is.
func kindOf(u api.Update) api.UpdateKind {
	kind := u.Kind
	switch kind {
	case api.UpInsert, api.UpModify:
		u.Table, u.Entry = "", api.Entry{}
	case api.UpDelete:
		u.Table, u.Entry.Matches, u.Entry.Priority = "", nil, 0
	case api.UpDefault:
		u.Table, u.Entry.Action, u.Entry.Args = "", "", nil
	case api.UpGroup:
		u.N, u.Ports = 0, nil
	default:
		return api.UpNone
	}
	if u.Table != "" || u.N != 0 || len(u.Ports) > 0 || !isNone(u.Entry) {
		return api.UpNone
	}
	return kind
}

func isNone(e api.Entry) bool {
	return len(e.Matches) == 0 && e.Priority == 0 && e.Action == "" && len(e.Args) == 0
}

func (b *batch) refuse(*api.Update) api.Errno { return api.ErrArg }

func (b *batch) find(u *api.Update) api.Errno {
	b.at = slices.IndexFunc(b.tables, func(t worlds.Table) bool { return t.Name == u.Table })
	if b.at < 0 {
		return api.ErrName
	}
	return api.OK
}

func (b *batch) check(u *api.Update) api.Errno {
	return match.Check(b.tables[b.at].Table, u.Entry)
}

func (b *batch) canDo(u *api.Update) api.Errno {
	return b.tables[b.at].CanDo(u.Entry.Action, u.Entry.Args)
}

func (b *batch) insert(u *api.Update) api.Errno { return b.change(u, match.Insert) }

func (b *batch) modify(u *api.Update) api.Errno { return b.change(u, match.Modify) }

func (b *batch) remove(u *api.Update) api.Errno { return b.change(u, match.Delete) }

// change need not keep the entries beside an error: the world is of no use then.
func (b *batch) change(u *api.Update, by func(match.Table, []api.Entry, api.Entry) ([]api.Entry, api.Errno)) api.Errno {
	rows := &b.world.Tables[b.at]
	l, e := by(b.tables[b.at].Table, rows.Entries, u.Entry)
	rows.Entries = l
	return e
}

func (b *batch) setDefault(u *api.Update) api.Errno {
	rows := &b.world.Tables[b.at]
	rows.Default, rows.Args = u.Entry.Action, slices.Clone(u.Entry.Args)
	return api.OK
}

func (b *batch) setPorts(u *api.Update) api.Errno {
	if u.N < 0 || u.N >= api.MaxGroup || !worlds.ArePorts(u.Ports) {
		return api.ErrArg
	}
	b.world.Groups[u.N].Ports = slices.Clone(u.Ports)
	return api.OK
}
