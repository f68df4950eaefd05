package worlds_test

import (
	"reflect"
	"slices"
	"testing"

	"pointsman/api"
	"pointsman/cells"
	"pointsman/parse"
	"pointsman/types"
	"pointsman/worlds"
)

func number(w int, lo uint64) api.Bits { return api.Bits{W: w, Lo: lo} }

func parsed(t *testing.T, s string) api.Program {
	t.Helper()
	p, line, e := parse.Parse(s)
	if e != api.OK {
		t.Fatalf("Parse(%q): %d, %d", s, line, e)
	}
	if line, e = types.Check(p); e != api.OK {
		t.Fatalf("Check(%q): %d, %d", s, line, e)
	}
	return p
}

// fresh is the world of a program of whose tables each does f, without args, by default.
func fresh(p api.Program) api.World {
	w := api.World{Arrays: cells.New(p), Groups: make([]api.Group, api.MaxGroup)}
	for _, d := range p {
		if d.Kind == api.DeTable {
			w.Tables = append(w.Tables, api.Rows{Name: d.Name, Default: "f"})
		}
	}
	return w
}

// TestKeys: an entry's matches are as wide as the keys, whatever these are made of.
func TestKeys(t *testing.T) {
	for key, want := range map[string]int{
		"7w5": 7, "h.a": 8, "h.b": 128, "meta.port": 16, "meta.out": 16, "meta.m": 5, "valid h": 1, "h.a[6:2]": 5, "h.b[64:64]": 1, "cast 65(h.a)": 65, "cast 1(h.b)": 1,
		"hash crc16(h.a)": 16, "hash crc32(h.a,h.b)": 32, "hash csum16(h.b)": 16, "hash xor16(meta.m)": 16, "~meta.m": 5, "h.a+8w1": 8, "h.a-8w1": 8, "h.b*h.b": 128, "meta.m&meta.m": 5, "meta.m|5w1": 5, "meta.m^5w1": 5,
		"h.b==h.b": 1, "h.a!=8w1": 1, "h.a<8w1": 1, "h.a<=8w1": 1, "h.a<<h.b": 8, "meta.m>>64w1": 5, "h.a++meta.m": 13, "(h.a++meta.m)++(meta.m++1w1)": 19, "h.a==8w1&&valid h": 1, "valid h||1w0": 1, "(h.a++h.a)+meta.port": 16,
	} {
		p := parsed(t, "header h{a 8;b 128;} meta{m 5;} action f(){} table t{key{"+key+" exact;} actions f; default f(); size 1;}")
		for w := 0; w <= api.MaxWidth+1; w++ {
			world := fresh(p)
			world.Tables[0].Entries = []api.Entry{{Matches: []api.Match{{Value: number(w, 0)}}, Action: "f"}}
			if worlds.Own(p, world) != (w == want) {
				t.Errorf("%s: of an entry %d wide: %v", key, w, w != want)
			}
		}
	}
}

func TestOwn(t *testing.T) {
	p := parsed(t, "action f(){} action g(p 8){} table t{key{meta.port prefix;} actions f g; default f(); size 2;} table u{key{} actions f; default f(); size 1;} meter y 2 1 5; register r 7 1;")
	entry := func(v uint64, n int, action string, args ...api.Bits) api.Entry {
		return api.Entry{Matches: []api.Match{{Value: number(16, v), Len: n}}, Action: action, Args: args}
	}
	for name, c := range map[string]struct {
		do   func(w *api.World)
		want bool
	}{
		"as it is": {func(w *api.World) {}, true},
		"entries": {func(w *api.World) {
			w.Tables[0].Entries = []api.Entry{entry(0, 0, "f"), entry(0, 1, "g", number(8, 255))}
		}, true},
		"too many": {func(w *api.World) {
			w.Tables[0].Entries = []api.Entry{entry(0, 0, "f"), entry(0, 1, "f"), entry(0, 2, "f")}
		}, false},
		"of one place": {func(w *api.World) {
			w.Tables[0].Entries = []api.Entry{entry(0, 1, "f"), entry(0, 1, "g", number(8, 1))}
		}, false},
		"bits behind":       {func(w *api.World) { w.Tables[0].Entries = []api.Entry{entry(1, 15, "f")} }, false},
		"an arg too wide":   {func(w *api.World) { w.Tables[0].Entries = []api.Entry{entry(0, 1, "g", number(9, 0))} }, false},
		"an arg above":      {func(w *api.World) { w.Tables[0].Entries = []api.Entry{entry(0, 1, "g", number(8, 256))} }, false},
		"no such action":    {func(w *api.World) { w.Tables[1].Entries = []api.Entry{{Action: "g", Args: []api.Bits{number(8, 1)}}} }, false},
		"another default":   {func(w *api.World) { w.Tables[0].Default, w.Tables[0].Args = "g", []api.Bits{number(8, 1)} }, true},
		"without args":      {func(w *api.World) { w.Tables[0].Default = "g" }, false},
		"tables turned":     {func(w *api.World) { slices.Reverse(w.Tables) }, false},
		"arrays turned":     {func(w *api.World) { slices.Reverse(w.Arrays) }, false},
		"tokens":            {func(w *api.World) { w.Arrays[0].Cells[1].Lo = 6 }, false},
		"before all ticks":  {func(w *api.World) { w.Now = -1 }, false},
		"a group less":      {func(w *api.World) { w.Groups = w.Groups[1:] }, false},
		"16 ports":          {func(w *api.World) { w.Groups[15].Ports = slices.Repeat([]int{65535}, 16) }, true},
		"17 ports":          {func(w *api.World) { w.Groups[15].Ports = make([]int, 17) }, false},
		"a port below all":  {func(w *api.World) { w.Groups[0].Ports = []int{-1} }, false},
		"a port above all":  {func(w *api.World) { w.Groups[0].Ports = []int{65536} }, false},
		"nothing":           {func(w *api.World) { *w = api.World{} }, false},
		"whatever comes up": {func(w *api.World) { w.Random, w.Now = 77, 1<<62 }, true},
	} {
		w := fresh(p)
		if c.do(&w); worlds.Own(p, w) != c.want {
			t.Errorf("%s: %v", name, !c.want)
		}
	}
	for port, want := range map[int]bool{-1: false, 0: true, 65535: true, 65536: false} {
		if worlds.IsPort(port) != want {
			t.Errorf("port %d: %v", port, !want)
		}
	}
}

// TestCopied: a copy stays as it is, whatever is done to the world it is of.
func TestCopied(t *testing.T) {
	made := func() api.World {
		return api.World{
			Tables: []api.Rows{{Name: "t", Entries: []api.Entry{{Matches: []api.Match{{Len: 1}}, Args: []api.Bits{number(8, 1)}}}, Args: []api.Bits{number(8, 2)}}},
			Arrays: []api.Array{{Name: "y", Cells: []api.Bits{number(64, 3)}, Last: []int{4}}},
			Groups: []api.Group{{Ports: []int{5}}}, Now: 6, Random: 7,
		}
	}
	w := made()
	got := worlds.Copied(w)
	w.Tables[0].Entries[0].Matches[0].Len, w.Tables[0].Entries[0].Args[0].Lo, w.Tables[0].Args[0].Lo = 0, 0, 0
	w.Arrays[0].Cells[0].Lo, w.Arrays[0].Last[0], w.Groups[0].Ports[0] = 0, 0, 0
	w.Tables[0].Entries[0], w.Tables[0], w.Arrays[0], w.Groups[0] = api.Entry{}, api.Rows{}, api.Array{}, api.Group{}
	if !reflect.DeepEqual(got, made()) {
		t.Errorf("%+v", got)
	}
}

// TestCells: one cell of an array changes, the others stay as they are.
func TestCells(t *testing.T) {
	l := cells.New(parsed(t, "counter k 3; register r 7 3; meter y 3 1 5;"))
	for _, i := range []api.Bits{number(2, 3), number(128, 1<<63), {W: 128, Hi: 1, Lo: 1}} {
		for a := range l {
			if c, ok := worlds.Find(&l[a], i); ok {
				t.Errorf("%v of %s: %v", i, l[a].Name, c)
			}
		}
	}
	want := cells.New(parsed(t, "counter k 3; register r 7 3; meter y 3 1 5;"))
	for a := range l {
		c, ok := worlds.Find(&l[a], number(8, 1))
		if !ok || c.At() != 1 {
			t.Fatalf("%s: %v, %v", l[a].Name, c, ok)
		}
		switch l[a].Kind {
		case api.DeCounter:
			c.Count()
			c.Count()
			want[a].Cells[1].Lo = 2
		case api.DeRegister:
			c.Write(number(7, 127))
			// What it can't hold is not written.
			c.Write(number(8, 1))
			if got := c.Read(); got != number(7, 127) {
				t.Errorf("read: %v", got)
			}
			want[a].Cells[1].Lo = 127
		case api.DeMeter:
			if got := c.Meter(9); got != number(1, 1) {
				t.Errorf("metered: %v", got)
			}
			want[a].Cells[1].Lo, want[a].Last[1] = 4, 9
		}
	}
	if !reflect.DeepEqual(l, want) {
		t.Errorf("%+v, want %+v", l, want)
	}
}
