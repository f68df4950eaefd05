package state

import (
	"slices"

	"pointsman/api"
)

// sameTables: have two worlds the same rows and groups? These come by requests alone: a pass leaves them as they are.
func sameTables(a, b api.World) bool {
	return slices.EqualFunc(a.Tables, b.Tables, sameRows) && slices.EqualFunc(a.Groups, b.Groups, sameGroup)
}

func sameRows(a, b api.Rows) bool {
	return a.Name == b.Name && slices.EqualFunc(a.Entries, b.Entries, sameEntry) && a.Default == b.Default && slices.Equal(a.Args, b.Args)
}

func sameEntry(a, b api.Entry) bool {
	return slices.Equal(a.Matches, b.Matches) && a.Priority == b.Priority && a.Action == b.Action && slices.Equal(a.Args, b.Args)
}

func sameGroup(a, b api.Group) bool { return slices.Equal(a.Ports, b.Ports) }
