package cache

import (
	"maps"
	"reflect"
	"testing"

	"pointsman/api"
)

func hit(table string, at int) api.Effect {
	return api.Effect{Kind: api.EfHit, Table: table, Entry: at}
}

// TestNothingIsLookedUp: of what is to be done again, the tables that were asked have no entries any more, and their row as the default.
func TestNothingIsLookedUp(t *testing.T) { // P18.2
	entry := func(action string) api.Entry {
		return api.Entry{Matches: make([]api.Match, 1), Action: action, Args: []api.Bits{{W: 8, Lo: uint64(action[0])}}}
	}
	table := func(name string) api.Rows {
		return api.Rows{Name: name, Entries: []api.Entry{entry("a"), entry("b"), entry("c")}, Default: "d", Args: []api.Bits{{W: 8, Lo: 'd'}}}
	}
	short := func(name, action string) api.Rows {
		return api.Rows{Name: name, Default: action, Args: []api.Bits{{W: 8, Lo: uint64(action[0])}}}
	}
	all := []api.Rows{table("t"), table("u"), table("v")}
	for _, x := range []struct {
		effects []api.Effect
		rows    map[string]int
		want    []api.Rows
	}{
		{nil, map[string]int{}, all},
		{[]api.Effect{{Kind: api.EfCount, Array: "t"}, {Kind: api.EfClone}, {Kind: api.EfRead, Table: "t"}}, map[string]int{}, all},
		{[]api.Effect{hit("u", 2)}, map[string]int{"u": 2}, []api.Rows{all[0], short("u", "c"), all[2]}},
		{[]api.Effect{hit("v", 0), hit("t", -1)}, map[string]int{"t": -1, "v": 0}, []api.Rows{short("t", "d"), all[1], short("v", "a")}},
		{[]api.Effect{hit("t", 1), {Kind: api.EfClone}, hit("u", 1), hit("v", 1)}, map[string]int{"t": 1, "u": 1, "v": 1}, []api.Rows{short("t", "b"), short("u", "b"), short("v", "b")}},
		// As only code that is no program's comes to it.
		{[]api.Effect{hit("t", 1), hit("t", 1), hit("u", -1), hit("u", -1)}, map[string]int{"t": 1, "u": -1}, []api.Rows{short("t", "b"), short("u", "d"), all[2]}},
		{[]api.Effect{hit("t", 1), hit("t", 0), hit("u", -1), hit("u", 0), hit("v", 2), hit("t", 1), hit("u", 0)}, map[string]int{"v": 2}, []api.Rows{all[0], all[1], short("v", "c")}},
	} {
		rows := rowsOf(x.effects)
		if !maps.Equal(rows, x.rows) {
			t.Errorf("rowsOf(%+v) = %v, want %v", x.effects, rows, x.rows)
		}
		if got := shortened(all, rows); !reflect.DeepEqual(got, x.want) {
			t.Errorf("shortened(%v) = %+v, want %+v", rows, got, x.want)
		}
	}
	if !reflect.DeepEqual(all, []api.Rows{table("t"), table("u"), table("v")}) {
		t.Errorf("what was handed in is now %+v", all)
	}
}
