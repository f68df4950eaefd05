package rules_test

import (
	"fmt"
	"math"
	"slices"
	"testing"

	"pointsman/api"
	"pointsman/source"
)

// wide is a program with a table as great as may be, of which an entry drops the packet or not.
const wide = "action f(){} action g(p 16){meta.out=p;} table t{key{meta.port exact;} actions f g; default f(); size 4096;} control{apply t;}"

func ofWide(port int, action string, args ...api.Bits) api.Entry {
	return api.Entry{Matches: []api.Match{{Value: number(16, uint64(port))}}, Action: action, Args: args}
}

func inserts(from, n int) []api.Update {
	var l []api.Update
	for i := range n {
		l = append(l, api.Update{Kind: api.UpInsert, Table: "t", Entry: ofWide(from+i, "g", number(16, uint64(i)))})
	}
	return l
}

// entriesOf are those that updates insert.
func entriesOf(l []api.Update) []api.Entry {
	var out []api.Entry
	for _, u := range l {
		out = append(out, u.Entry)
	}
	return out
}

func TestBatchBounds(t *testing.T) { // P19.2
	p := parsed(t, wide)
	w := fresh(t, p)
	w.Tables[0].Entries = entriesOf(inserts(9000, 3))
	for _, n := range []int{0, 1, 2, 63, 64, 65, 66, 1000} {
		l := inserts(0, n)
		want := written{World: copied(w, 0)}
		want.World.Tables[0].Entries = append(want.World.Tables[0].Entries, entriesOf(l)...)
		if n > 64 {
			want = written{E: api.ErrLimit}
		}
		if got := write(p, w, l...); !same(got, want) {
			t.Errorf("%d updates: %d at %d", n, got.E, got.At)
		}
		bad := copied(w, 0)
		bad.Tables[0].Default = "x"
		if got := write(p, bad, l...); !same(got, written{E: api.ErrArg}) {
			t.Errorf("%d updates, no world: %d at %d", n, got.E, got.At)
		}
	}
	// That they are too many counts ahead of what the first one is.
	if got := write(p, w, make([]api.Update, 65)...); !same(got, written{E: api.ErrLimit}) {
		t.Errorf("65 of no kind: %d at %d", got.E, got.At)
	}
	if got := write(p, w, make([]api.Update, 64)...); !same(got, written{E: api.ErrArg}) {
		t.Errorf("64 of no kind: %d at %d", got.E, got.At)
	}
}

// TestRefusedAt: a batch that is refused anywhere leaves nothing.
func TestRefusedAt(t *testing.T) { // P19.2, P19.4, P0.3
	p := parsed(t, wide)
	w := fresh(t, p)
	w.Tables[0].Entries = entriesOf(inserts(9000, 3))
	before := copied(w, 0)
	wrong := map[api.Errno]api.Update{
		api.ErrArg:   {Kind: api.UpGroup, N: 16},
		api.ErrName:  {Kind: api.UpDelete, Table: "f"},
		api.ErrWidth: {Kind: api.UpDefault, Table: "t", Entry: api.Entry{Action: "g"}},
		api.ErrGone:  {Kind: api.UpDelete, Table: "t", Entry: ofWide(8999, "")},
		api.ErrThere: {Kind: api.UpInsert, Table: "t", Entry: ofWide(9001, "f")},
	}
	for e, u := range wrong {
		for _, n := range []int{1, 2, 3, 63, 64} {
			for _, at := range []int{0, n / 2, n - 1} {
				l := inserts(0, n)
				l[at] = u
				if got := write(p, w, l...); !same(got, written{At: at, E: e}) {
					t.Errorf("%d of %d: %d at %d, want %d", at, n, got.E, got.At, e)
				}
				// The first one that may not be counts, whatever stands behind it.
				for other, v := range wrong {
					if n > at+1 {
						l[n-1] = v
						if got := write(p, w, l...); !same(got, written{At: at, E: e}) {
							t.Errorf("%d of %d, then %d: %d at %d, want %d", at, n, other, got.E, got.At, e)
						}
					}
				}
			}
		}
	}
	if !same(w, before) {
		t.Errorf("the world is changed: %+v", w)
	}
}

// TestWrongWorlds: a world that is not the program's, whatever is to be done.
func TestWrongWorlds(t *testing.T) { // P19.2, P19.3
	p := parsed(t, three)
	for name, do := range map[string]func(w *api.World){
		"nothing":             func(w *api.World) { *w = api.World{} },
		"Now below 0":         func(w *api.World) { w.Now = -1 },
		"no groups":           func(w *api.World) { w.Groups = nil },
		"17 groups":           func(w *api.World) { w.Groups = append(w.Groups, api.Group{}) },
		"17 ports":            func(w *api.World) { w.Groups[5].Ports = make([]int, 17) },
		"a port above all":    func(w *api.World) { w.Groups[5].Ports = []int{65536} },
		"a table less":        func(w *api.World) { w.Tables = w.Tables[:2] },
		"tables turned":       func(w *api.World) { slices.Reverse(w.Tables) },
		"no default":          func(w *api.World) { w.Tables[0].Default = "" },
		"a default's args":    func(w *api.World) { w.Tables[0].Args = nil },
		"an entry's action":   func(w *api.World) { w.Tables[0].Entries[0].Action = "other" },
		"an entry's priority": func(w *api.World) { w.Tables[1].Entries[0].Priority = 0 },
		"too many entries":    func(w *api.World) { w.Tables[0].Entries = slices.Repeat(w.Tables[0].Entries, 2) },
		"of one place":        func(w *api.World) { w.Tables[0].Entries[1] = w.Tables[0].Entries[0] },
		"an array less":       func(w *api.World) { w.Arrays = w.Arrays[1:] },
		"a cell less":         func(w *api.World) { w.Arrays[0].Cells = w.Arrays[0].Cells[1:] },
		"a cell too wide":     func(w *api.World) { w.Arrays[0].Cells[0].Lo = 32 },
		"tokens":              func(w *api.World) { w.Arrays[2].Cells[0].Lo = 10 },
		"another program's":   func(w *api.World) { *w = fresh(t, parsed(t, chapter)) },
	} {
		w := filledWorld(t, p)
		do(&w)
		for _, l := range [][]api.Update{nil, {{Kind: api.UpGroup, N: 5}}, {{Kind: api.UpDefault, Table: "t", Entry: api.Entry{Action: "g"}}}, {{Kind: api.UpDelete, Table: "x"}}, make([]api.Update, 65)} {
			if got := write(p, w, l...); !same(got, written{E: api.ErrArg}) {
				t.Errorf("%s: Write(%.300s) = %d at %d", name, told(l), got.E, got.At)
			}
		}
		for _, r := range []api.Request{{}, {Kind: api.RqRead, Table: "v"}, {Kind: api.RqRead, Table: "x"}, {Kind: api.RqCells, Table: "k"}, {Kind: api.RqCells, Table: "k", N: 9}} {
			if got := read(p, w, r); !same(got, answered{E: api.ErrArg}) {
				t.Errorf("%s: Read(%+v) = %+v", name, r, got)
			}
		}
	}
	// Of no program there is a world, too.
	none := fresh(t, nil)
	want := copied(none, 0)
	want.Groups[15].Ports = []int{3}
	if got := write(nil, none, api.Update{Kind: api.UpGroup, N: 15, Ports: []int{3}}); !same(got, written{World: want}) {
		t.Errorf("of no program: %+v", got)
	}
}

// TestRoom: a table takes as many entries as its size, and again when one is gone.
func TestRoom(t *testing.T) { // P19.2
	p := parsed(t, wide)
	w := fresh(t, p)
	w.Tables[0].Entries = entriesOf(inserts(0, 4096-64))
	got := write(p, w, inserts(4096-64, 64)...)
	if got.E != api.OK || len(got.World.Tables[0].Entries) != 4096 {
		t.Fatalf("the last 64: %d at %d", got.E, got.At)
	}
	w = got.World
	one, first := inserts(5000, 1)[0], api.Update{Kind: api.UpDelete, Table: "t", Entry: ofWide(0, "")}
	if got := write(p, w, one); !same(got, written{E: api.ErrFull}) {
		t.Errorf("one more: %d at %d", got.E, got.At)
	}
	if got := write(p, w, inserts(77, 1)...); !same(got, written{E: api.ErrThere}) {
		t.Errorf("one that is there, without room: %d at %d", got.E, got.At)
	}
	if got := write(p, w, first, one, one); !same(got, written{At: 2, E: api.ErrThere}) {
		t.Errorf("twice: %d at %d", got.E, got.At)
	}
	if got := write(p, w, first, one, inserts(5001, 1)[0]); !same(got, written{At: 2, E: api.ErrFull}) {
		t.Errorf("two for one: %d at %d", got.E, got.At)
	}
	change := api.Update{Kind: api.UpModify, Table: "t", Entry: ofWide(4095, "f")}
	got = write(p, w, change, first, one)
	want := copied(w, 0)
	want.Tables[0].Entries[4095] = change.Entry
	want.Tables[0].Entries = append(want.Tables[0].Entries[1:], one.Entry)
	if !same(got, written{World: want}) {
		t.Errorf("one for another: %d at %d", got.E, got.At)
	}
	for _, size := range []int{1, 2} {
		p := parsed(t, fmt.Sprintf("action f(){} action g(p 16){} table t{key{meta.port exact;} actions f g; default f(); size %d;}", size))
		if got := write(p, fresh(t, p), inserts(0, size)...); got.E != api.OK {
			t.Errorf("size %d: %d at %d", size, got.E, got.At)
		}
		if got := write(p, fresh(t, p), inserts(0, size+1)...); !same(got, written{At: size, E: api.ErrFull}) {
			t.Errorf("size %d and one: %d at %d", size, got.E, got.At)
		}
	}
}

// TestOneBehindTheOther: what an update did, the next one finds.
func TestOneBehindTheOther(t *testing.T) { // P19.2
	p := parsed(t, wide)
	w := fresh(t, p)
	row := func(kind api.UpdateKind, action string, args ...api.Bits) api.Update {
		return api.Update{Kind: kind, Table: "t", Entry: ofWide(7, action, args...)}
	}
	put, change, drop := row(api.UpInsert, "f"), row(api.UpModify, "g", number(16, 5)), row(api.UpDelete, "")
	group := func(ports ...int) api.Update { return api.Update{Kind: api.UpGroup, N: 2, Ports: ports} }
	def := func(action string, args ...api.Bits) api.Update {
		return api.Update{Kind: api.UpDefault, Table: "t", Entry: api.Entry{Action: action, Args: args}}
	}
	for name, c := range map[string]struct {
		l    []api.Update
		want written
	}{
		"put, put":           {[]api.Update{put, put}, written{At: 1, E: api.ErrThere}},
		"put, drop, put":     {[]api.Update{put, drop, put}, written{World: api.World{Tables: []api.Rows{{Entries: []api.Entry{put.Entry}}}}}},
		"put, change":        {[]api.Update{put, change}, written{World: api.World{Tables: []api.Rows{{Entries: []api.Entry{change.Entry}}}}}},
		"change, put":        {[]api.Update{change, put}, written{E: api.ErrGone}},
		"put, drop, change":  {[]api.Update{put, drop, change}, written{At: 2, E: api.ErrGone}},
		"put, drop, drop":    {[]api.Update{put, drop, drop}, written{At: 2, E: api.ErrGone}},
		"put, change, again": {[]api.Update{put, change, row(api.UpModify, "f")}, written{World: api.World{Tables: []api.Rows{{Entries: []api.Entry{put.Entry}}}}}},
		"the last default":   {[]api.Update{def("g", number(16, 1)), def("f"), def("g", number(16, 2))}, written{World: api.World{Tables: []api.Rows{{Default: "g", Args: []api.Bits{number(16, 2)}}}}}},
		"the last group":     {[]api.Update{group(1, 2, 3), group(), group(4)}, written{World: api.World{Groups: []api.Group{2: {Ports: []int{4}}}}}},
	} {
		want := c.want
		if want.E == api.OK {
			// What is not told is as it was.
			of := fresh(t, p)
			for _, r := range want.World.Tables {
				of.Tables[0].Entries = r.Entries
				if r.Default != "" {
					of.Tables[0].Default, of.Tables[0].Args = r.Default, r.Args
				}
			}
			copy(of.Groups, want.World.Groups)
			want.World = of
		}
		if got := write(p, w, c.l...); !same(got, want) {
			t.Errorf("%s: %+v, want %+v", name, got, want)
		}
	}
}

// TestPasses: a pass goes by what the updates did.
func TestPasses(t *testing.T) { // P19.4
	p := parsed(t, "action f(){drop;} action g(p 16){meta.out=p;} action h(n 8){clone 3;} table t{key{meta.port exact;} actions f g h; default f(); size 4;} counter c 2; control{apply t;count c[1w1];}")
	w := fresh(t, p)
	w.Now, w.Random = 5, math.MaxUint64
	pass := func(port int) api.Pass {
		got, behind, e := source.Run(p, w, port, []byte("ab"))
		if e != api.OK {
			t.Fatalf("port %d: %d", port, e)
		}
		w = behind
		return got
	}
	do := func(l ...api.Update) {
		got := write(p, w, l...)
		if got.E != api.OK {
			t.Fatalf("%+v: %d at %d", l, got.E, got.At)
		}
		w = got.World
	}
	if got := pass(7); got.End != api.EndDropped {
		t.Errorf("by the default: %+v", got)
	}
	do(append(inserts(6, 2), api.Update{Kind: api.UpDefault, Table: "t", Entry: api.Entry{Action: "g", Args: []api.Bits{number(16, 99)}}})...)
	if got := pass(7); got.End != api.EndSent || got.Port != 1 || got.Effects[0].Entry != 1 {
		t.Errorf("by an entry: %+v", got)
	}
	if got := pass(8); got.End != api.EndSent || got.Port != 99 || got.Effects[0].Entry != -1 {
		t.Errorf("by another default: %+v", got)
	}
	do(api.Update{Kind: api.UpDelete, Table: "t", Entry: ofWide(6, "")}, api.Update{Kind: api.UpModify, Table: "t", Entry: ofWide(7, "h", number(8, 1))})
	if got := pass(7); got.End != api.EndSent || got.Port != 0 || got.Effects[0].Entry != 0 || got.Effects[1].Group != 3 {
		t.Errorf("by the entry, modified: %+v", got)
	}
	if got := pass(6); got.Port != 99 {
		t.Errorf("by none: %+v", got)
	}
	if got := read(p, w, api.Request{Kind: api.RqCells, Table: "c", N: 1}); !same(got, answered{Reply: api.Reply{Value: number(64, 5)}}) {
		t.Errorf("counted: %+v", got)
	}
	if w.Now != 5 || w.Random != math.MaxUint64 {
		t.Errorf("%+v", w)
	}
}
