package rules_test

import (
	"fmt"
	"math"
	"slices"
	"testing"

	"pointsman/api"
)

// flaw is what makes an update one that may not be. Of two flaws the one whose error stands ahead counts.
type flaw struct {
	name string
	at   int // where its error stands among those of the update's kind
	e    api.Errno
	do   func(u *api.Update, w *api.World)
}

// unnamed are flaws of what no update of a table has.
func unnamed() []flaw {
	return []flaw{
		{"N", 0, api.ErrArg, func(u *api.Update, _ *api.World) { u.N = 1 }},
		{"N below 0", 0, api.ErrArg, func(u *api.Update, _ *api.World) { u.N = math.MinInt }},
		{"a port", 0, api.ErrArg, func(u *api.Update, _ *api.World) { u.Ports = []int{0} }},
		{"ports", 0, api.ErrArg, func(u *api.Update, _ *api.World) { u.Ports = make([]int, 17) }},
	}
}

func wrongTables() []flaw {
	var l []flaw
	for _, name := range notTables() {
		l = append(l, flaw{fmt.Sprintf("table %.20q", name), 1, api.ErrName, func(u *api.Update, _ *api.World) { u.Table = name }})
	}
	return l
}

// wrongMatches are flaws of matches and priorities of an entry of t, and of args that are no numbers: what match.Check asks.
func wrongMatches() []flaw {
	var l []flaw
	for name, do := range map[string]func(e *api.Entry){
		"no matches":             func(e *api.Entry) { e.Matches = nil },
		"a match less":           func(e *api.Entry) { e.Matches = e.Matches[:1] },
		"a match more":           func(e *api.Entry) { e.Matches = append(e.Matches, api.Match{Value: number(8, 1)}) },
		"matches turned":         func(e *api.Entry) { slices.Reverse(e.Matches) },
		"a value too wide":       func(e *api.Entry) { e.Matches[0].Value.W = 9 },
		"a value too narrow":     func(e *api.Entry) { e.Matches[1].Value = number(15, 0) },
		"a value's bits above":   func(e *api.Entry) { e.Matches[0].Value.Lo = 256 },
		"a value of no width":    func(e *api.Entry) { e.Matches[0].Value = api.Bits{} },
		"a mask of an exact key": func(e *api.Entry) { e.Matches[0].Mask = number(8, 255) },
		"a Len of an exact key":  func(e *api.Entry) { e.Matches[0].Len = 1 },
		"a mask of a prefix":     func(e *api.Entry) { e.Matches[1].Mask = number(16, 0) },
		"a Len above":            func(e *api.Entry) { e.Matches[1].Len = 17 },
		"a Len below 0":          func(e *api.Entry) { e.Matches[1].Len = -1 },
		"bits behind the prefix": func(e *api.Entry) { e.Matches[1].Value.Lo |= 1 },
		"a priority":             func(e *api.Entry) { e.Priority = 1 },
		"a priority below 0":     func(e *api.Entry) { e.Priority = -1 },
	} {
		l = append(l, flaw{name, 2, api.ErrArg, func(u *api.Update, _ *api.World) { do(&u.Entry) }})
	}
	return l
}

// noNumbers are flaws of args that are no numbers. Where match.Check is asked, it refuses them.
func noNumbers(at int, e api.Errno) []flaw {
	var l []flaw
	for _, b := range []api.Bits{{}, {W: 8, Lo: 256}, {W: 8, Hi: 1}, {W: -1}, {W: 129}, {W: math.MaxInt}} {
		l = append(l, flaw{fmt.Sprintf("one more, %v", b), at, e, func(u *api.Update, _ *api.World) { u.Entry.Args = append(u.Entry.Args, b) }},
			flaw{fmt.Sprintf("first %v", b), at, e, func(u *api.Update, _ *api.World) { u.Entry.Args = []api.Bits{b, number(128, 2)} }})
	}
	return l
}

// wrongActions are flaws of an action and its args, of which the update has f's.
func wrongActions(at int) []flaw {
	var l []flaw
	for _, name := range []string{"", "other", "t", "h", "r", "x", "F", "f ", "drop"} {
		l = append(l, flaw{fmt.Sprintf("action %q", name), at, api.ErrName, func(u *api.Update, _ *api.World) { u.Entry.Action = name }})
	}
	for name, args := range map[string][]api.Bits{
		"no args": nil, "an arg less": {number(8, 1)}, "an arg more": {number(8, 1), number(128, 2), number(8, 1)}, "args turned": {number(128, 2), number(8, 1)},
		"an arg too narrow": {number(8, 1), number(127, 2)}, "an arg too wide": {number(9, 1), number(128, 2)}, "both too narrow": {number(7, 1), number(1, 1)},
	} {
		l = append(l, flaw{name, at + 1, api.ErrWidth, func(u *api.Update, _ *api.World) { u.Entry.Args = args }})
	}
	return append(l, flaw{"another action", at + 1, api.ErrWidth, func(u *api.Update, _ *api.World) {
		if u.Entry.Action == "f" {
			u.Entry.Action = "g"
		}
	}})
}

// entryOf is the entry of all updates of t that are tried. The world has none of its place.
func entryOf(action string, args ...api.Bits) api.Entry { return ofT(2, 0x8000, 1, action, args...) }

func fArgs() []api.Bits { return []api.Bits{number(8, 200), {W: 128, Hi: math.MaxUint64, Lo: 3}} }

// tried is an update that may be, a world in which it may be, and all its flaws.
type tried struct {
	update api.Update
	world  func(w *api.World)
	flaws  []flaw
}

// added puts an entry of the update's place into t, in the last one's stead if there is no room.
func added(_ *api.Update, w *api.World) {
	w.Tables[0].Entries = append(w.Tables[0].Entries[:2], entryOf("g"))
}

// filledUp takes the room that is left, so that t has three entries.
func filledUp(_ *api.Update, w *api.World) {
	for i := uint64(0); len(w.Tables[0].Entries) < 3; i++ {
		w.Tables[0].Entries = append(w.Tables[0].Entries, ofT(9, i<<15, 1, "g"))
	}
}

func gone(_ *api.Update, w *api.World) { w.Tables[0].Entries = w.Tables[0].Entries[:2] }

// tries are updates of each kind of the table t.
func tries() []tried {
	row := slices.Concat(unnamed(), wrongTables(), wrongMatches())
	noArgs := []flaw{
		{"an action", 0, api.ErrArg, func(u *api.Update, _ *api.World) { u.Entry.Action = "f" }},
		{"what is no action", 0, api.ErrArg, func(u *api.Update, _ *api.World) { u.Entry.Action = "x" }},
		{"args", 0, api.ErrArg, func(u *api.Update, _ *api.World) { u.Entry.Args = fArgs() }},
		{"an arg of none", 0, api.ErrArg, func(u *api.Update, _ *api.World) { u.Entry.Args = make([]api.Bits, 1) }},
	}
	noPlace := []flaw{
		{"a match", 0, api.ErrArg, func(u *api.Update, _ *api.World) { u.Entry.Matches = make([]api.Match, 1) }},
		{"matches", 0, api.ErrArg, func(u *api.Update, _ *api.World) { u.Entry.Matches = entryOf("").Matches }},
		{"a priority", 0, api.ErrArg, func(u *api.Update, _ *api.World) { u.Entry.Priority = 1 }},
		{"a priority below 0", 0, api.ErrArg, func(u *api.Update, _ *api.World) { u.Entry.Priority = -1 }},
	}
	goneFlaw := func(at int) []flaw { return []flaw{{"gone", at, api.ErrGone, gone}} }
	there := func(w *api.World) { added(nil, w) }
	nothing := func(w *api.World) {}
	return []tried{
		{api.Update{Kind: api.UpInsert, Table: "t", Entry: entryOf("f", fArgs()...)}, nothing,
			slices.Concat(row, noNumbers(2, api.ErrArg), wrongActions(3), []flaw{{"there", 5, api.ErrThere, added}, {"full", 6, api.ErrFull, filledUp}})},
		{api.Update{Kind: api.UpModify, Table: "t", Entry: entryOf("f", fArgs()...)}, there,
			slices.Concat(row, noNumbers(2, api.ErrArg), wrongActions(3), goneFlaw(5))},
		{api.Update{Kind: api.UpDelete, Table: "t", Entry: entryOf("")}, there,
			slices.Concat(row, noArgs, goneFlaw(3))},
		{api.Update{Kind: api.UpDefault, Table: "t", Entry: api.Entry{Action: "f", Args: fArgs()}}, nothing,
			slices.Concat(unnamed(), wrongTables(), noPlace, wrongActions(2), noNumbers(3, api.ErrWidth))},
	}
}

// refuses asks that the update is refused, alone and within a batch, and that the world stays as it is.
func refuses(t *testing.T, what string, p api.Program, w api.World, u api.Update, want api.Errno) {
	t.Helper()
	before := copied(w, 0)
	fine, worse := api.Update{Kind: api.UpGroup, N: 5, Ports: []int{1}}, api.Update{Kind: api.UpNone}
	for at, l := range [][]api.Update{{u}, {fine, u}, {fine, fine, u, worse}, slices.Concat(slices.Repeat([]api.Update{fine}, 3), []api.Update{u, fine, u, worse})} {
		if got := write(p, w, l...); !same(got, written{At: at, E: want}) {
			t.Errorf("%s: %d at %d, want %d at %d; %.300s", what, got.E, got.At, want, at, told(got.World))
		}
	}
	if !same(w, before) {
		t.Errorf("%s: the world is changed", what)
	}
}

// TestErrors: each error of each kind of update, alone and with each that stands behind it.
func TestErrors(t *testing.T) { // P19.2, P19.4, P0.3, R2
	t.Parallel()
	p := parsed(t, three)
	for _, c := range tries() {
		given := func(l ...flaw) (api.Update, api.World) {
			u, w := copied(c.update, 0), filledWorld(t, p)
			c.world(&w)
			for _, f := range l {
				f.do(&u, &w)
			}
			return u, w
		}
		if u, w := given(); write(p, w, u).E != api.OK {
			t.Fatalf("%+v: %+v", u, write(p, w, u))
		}
		for _, a := range c.flaws {
			u, w := given(a)
			refuses(t, fmt.Sprintf("kind %d, %s", u.Kind, a.name), p, w, u, a.e)
			for _, b := range c.flaws {
				if a.at >= b.at {
					continue
				}
				// What counts is done last, so that it is there whatever the other one did.
				u, w := given(b, a)
				if got := write(p, w, u); !same(got, written{E: a.e}) {
					t.Errorf("kind %d, %s and %s: %d, want %d", u.Kind, a.name, b.name, got.E, a.e)
				}
			}
		}
	}
}

// TestUnnamed: what an update has that its kind does not name, whatever it is, and updates of no kind.
func TestUnnamed(t *testing.T) { // P19.2
	p := parsed(t, three)
	w := filledWorld(t, p)
	group := api.Update{Kind: api.UpGroup, N: 3, Ports: []int{9}}
	if got := write(p, w, group); got.E != api.OK {
		t.Fatalf("%+v", got)
	}
	for name, do := range map[string]func(u *api.Update){
		"a table":    func(u *api.Update) { u.Table = "t" },
		"no table":   func(u *api.Update) { u.Table = "x" },
		"a match":    func(u *api.Update) { u.Entry.Matches = make([]api.Match, 1) },
		"a priority": func(u *api.Update) { u.Entry.Priority = -1 },
		"an action":  func(u *api.Update) { u.Entry.Action = "g" },
		"an arg":     func(u *api.Update) { u.Entry.Args = make([]api.Bits, 1) },
	} {
		u := group
		do(&u)
		refuses(t, "a group with "+name, p, w, u, api.ErrArg)
	}
	for kind := range 256 {
		if int(api.UpInsert) <= kind && kind <= int(api.UpGroup) {
			continue
		}
		for _, c := range tries() {
			u := c.update
			u.Kind = api.UpdateKind(kind)
			refuses(t, fmt.Sprint("kind ", kind), p, w, u, api.ErrArg)
		}
		refuses(t, fmt.Sprint("nothing of kind ", kind), p, w, api.Update{Kind: api.UpdateKind(kind)}, api.ErrArg)
	}
}

// TestNothingMore: an update of a kind without what that kind has.
func TestNothingMore(t *testing.T) { // P19.2
	p := parsed(t, three)
	w := filledWorld(t, p)
	for kind, want := range map[api.UpdateKind]api.Errno{api.UpInsert: api.ErrName, api.UpModify: api.ErrName, api.UpDelete: api.ErrName, api.UpDefault: api.ErrName} {
		refuses(t, fmt.Sprint("kind ", kind), p, w, api.Update{Kind: kind}, want)
	}
	// No ports of the group 0.
	w.Groups[0].Ports = []int{1}
	want := copied(w, 0)
	want.Groups[0].Ports = nil
	if got := write(p, w, api.Update{Kind: api.UpGroup}); !same(got, written{World: want}) {
		t.Errorf("no ports: %+v", got)
	}
}

// TestWeighed: what may be an entry of a table that weighs, and of one without keys.
func TestWeighed(t *testing.T) { // P19.2
	p := parsed(t, three)
	w := filledWorld(t, p)
	w.Tables[1].Entries, w.Tables[2].Entries = nil, nil
	for _, c := range []struct {
		name, table string
		entry       api.Entry
		want        api.Errno
	}{
		{"as it is", "u", ofU(1, 1, 0, 255, 1, "g"), api.OK},
		{"the least", "u", ofU(0, 0, 0, 0, 1, "g"), api.OK},
		{"the greatest", "u", ofU(255, 255, 255, 255, math.MaxInt32, "f", fArgs()...), api.OK},
		{"no priority", "u", ofU(1, 1, 0, 255, 0, "g"), api.ErrArg},
		{"a priority below 0", "u", ofU(1, 1, 0, 255, -1, "g"), api.ErrArg},
		{"a priority above all", "u", ofU(1, 1, 0, 255, math.MaxInt32+1, "g"), api.ErrArg},
		{"bits beside the mask", "u", ofU(3, 1, 0, 255, 1, "g"), api.ErrArg},
		{"a range the wrong way round", "u", ofU(1, 1, 5, 4, 1, "g"), api.ErrArg},
		{"an entry of t", "u", entryOf("g"), api.ErrArg},
		{"no action", "u", ofU(1, 1, 0, 255, 1, ""), api.ErrName},
		{"an action without args", "u", ofU(1, 1, 0, 255, 1, "f"), api.ErrWidth},
		{"without keys", "v", api.Entry{Action: "g"}, api.OK},
		{"a match", "v", api.Entry{Matches: make([]api.Match, 1), Action: "g"}, api.ErrArg},
		{"a priority", "v", api.Entry{Priority: 1, Action: "g"}, api.ErrArg},
		{"an action of other tables", "v", api.Entry{Action: "f", Args: fArgs()}, api.ErrName},
		{"args", "v", api.Entry{Action: "g", Args: fArgs()}, api.ErrWidth},
	} {
		u := api.Update{Kind: api.UpInsert, Table: c.table, Entry: c.entry}
		if c.want != api.OK {
			refuses(t, c.name, p, w, u, c.want)
			continue
		}
		want := copied(w, 0)
		at := map[string]int{"u": 1, "v": 2}[c.table]
		want.Tables[at].Entries = []api.Entry{c.entry}
		if got := write(p, w, u); !same(got, written{World: want}) {
			t.Errorf("%s: %+v", c.name, got)
		}
	}
}

// TestDone: what each kind of update does, and that it does no more.
func TestDone(t *testing.T) { // P19.2
	p := parsed(t, three)
	entry := entryOf("f", fArgs()...)
	first, second := ofT(1, 0x8000, 1, ""), ofT(1, 0x8000, 2, "")
	for name, c := range map[string]struct {
		u    api.Update
		want func(w *api.World)
	}{
		"insert": {api.Update{Kind: api.UpInsert, Table: "t", Entry: entry}, func(w *api.World) { w.Tables[0].Entries = append(w.Tables[0].Entries, entry) }},
		"modify": {api.Update{Kind: api.UpModify, Table: "t", Entry: ofT(1, 0x8000, 2, "f", fArgs()...)}, func(w *api.World) {
			w.Tables[0].Entries[1].Action, w.Tables[0].Entries[1].Args = "f", fArgs()
		}},
		"modify the first":   {api.Update{Kind: api.UpModify, Table: "t", Entry: ofT(1, 0x8000, 1, "g")}, func(w *api.World) { w.Tables[0].Entries[0].Action, w.Tables[0].Entries[0].Args = "g", nil }},
		"modify, as it is":   {api.Update{Kind: api.UpModify, Table: "u", Entry: ofU(1, 3, 4, 5, 2, "g")}, func(w *api.World) {}},
		"modify by priority": {api.Update{Kind: api.UpModify, Table: "u", Entry: ofU(1, 3, 4, 5, 2, "f", fArgs()...)}, func(w *api.World) { w.Tables[1].Entries[1].Action, w.Tables[1].Entries[1].Args = "f", fArgs() }},
		"delete the first":   {api.Update{Kind: api.UpDelete, Table: "t", Entry: first}, func(w *api.World) { w.Tables[0].Entries = w.Tables[0].Entries[1:] }},
		"delete the second":  {api.Update{Kind: api.UpDelete, Table: "t", Entry: second}, func(w *api.World) { w.Tables[0].Entries = w.Tables[0].Entries[:1] }},
		"delete by priority": {api.Update{Kind: api.UpDelete, Table: "u", Entry: ofU(1, 3, 4, 5, 1, "")}, func(w *api.World) { w.Tables[1].Entries = w.Tables[1].Entries[1:] }},
		"delete the only":    {api.Update{Kind: api.UpDelete, Table: "v"}, func(w *api.World) { w.Tables[2].Entries = nil }},
		"default":            {api.Update{Kind: api.UpDefault, Table: "t", Entry: api.Entry{Action: "f", Args: fArgs()}}, func(w *api.World) { w.Tables[0].Args = fArgs() }},
		"another default":    {api.Update{Kind: api.UpDefault, Table: "t", Entry: api.Entry{Action: "g"}}, func(w *api.World) { w.Tables[0].Default, w.Tables[0].Args = "g", nil }},
		"default of u":       {api.Update{Kind: api.UpDefault, Table: "u", Entry: api.Entry{Action: "f", Args: fArgs()}}, func(w *api.World) { w.Tables[1].Default, w.Tables[1].Args = "f", fArgs() }},
		"group":              {api.Update{Kind: api.UpGroup, N: 3, Ports: []int{5, 5, 4}}, func(w *api.World) { w.Groups[3].Ports = []int{5, 5, 4} }},
		"group without":      {api.Update{Kind: api.UpGroup, N: 15}, func(w *api.World) { w.Groups[15].Ports = nil }},
		"group 0":            {api.Update{Kind: api.UpGroup, Ports: []int{65535, 0}}, func(w *api.World) { w.Groups[0].Ports = []int{65535, 0} }},
	} {
		w, want := filledWorld(t, p), filledWorld(t, p)
		c.want(&want)
		if got := write(p, w, c.u); !same(got, written{World: want}) {
			t.Errorf("%s: %+v, want %+v", name, got, want)
		}
		if !same(w, filledWorld(t, p)) {
			t.Errorf("%s: the world is changed", name)
		}
	}
}

func TestGroups(t *testing.T) { // P19.2
	p := parsed(t, three)
	w := filledWorld(t, p)
	for _, n := range []int{math.MinInt, math.MinInt32, -16, -1, 0, 1, 14, 15, 16, 17, 256, 1 << 32, math.MaxInt32, math.MaxInt} {
		for _, ports := range []int{0, 1, 15, 16, 17, 64} {
			u := api.Update{Kind: api.UpGroup, N: n, Ports: slices.Repeat([]int{n & 65535}, ports)}
			if n < 0 || n > 15 || ports > 16 {
				refuses(t, fmt.Sprintf("group %d, %d ports", n, ports), p, w, u, api.ErrArg)
				continue
			}
			want := copied(w, 0)
			want.Groups[n].Ports = u.Ports
			if got := write(p, w, u); !same(got, written{World: want}) {
				t.Errorf("group %d, %d ports: %+v", n, ports, got)
			}
		}
	}
	for port, may := range map[int]bool{math.MinInt: false, -65536: false, -1: false, 0: true, 1: true, 65534: true, 65535: true, 65536: false, 1 << 32: false, math.MaxInt: false} {
		// Wherever it stands.
		for at := range 16 {
			u := api.Update{Kind: api.UpGroup, N: at, Ports: make([]int, 16)}
			u.Ports[at] = port
			if !may {
				refuses(t, fmt.Sprint("port ", port), p, w, u, api.ErrArg)
			} else if got := write(p, w, u); got.E != api.OK || !slices.Equal(got.World.Groups[at].Ports, u.Ports) {
				t.Errorf("port %d: %+v", port, got)
			}
		}
	}
}
