package source_test

import (
	"math"
	"math/rand/v2"
	"reflect"
	"slices"
	"testing"

	"pointsman/api"
	"pointsman/bits"
	"pointsman/match"
	"pointsman/print"
	"pointsman/source"
	"pointsman/types"
)

// tables is a program with all that a world may have, of which it does nothing.
const tables = `header h{a 8;b 8;} action f(p 8,q 128){} action g(){} action other(){} register r 5 2; counter k 3; meter y 2 7 9;
	table t{key{h.a exact;h.a++h.b prefix;} actions f g; default f(8w1,128w2); size 3;} table u{key{h.a mask;h.b+8w1 range;} actions g f; default g(); size 2;} table v{key{} actions g; default g(); size 1;}`

func number(w int, lo uint64) api.Bits { return api.Bits{W: w, Lo: lo} }

// filledWorld is a world of that program with something in all of its lists.
func filledWorld(t *testing.T, p api.Program) api.World {
	t.Helper()
	w, e := source.New(p)
	if e != api.OK {
		t.Fatal(e)
	}
	prefix := func(a, b uint64, n int, action string, args ...api.Bits) api.Entry {
		return api.Entry{Matches: []api.Match{{Value: number(8, a)}, {Value: number(16, b), Len: n}}, Action: action, Args: args}
	}
	weighed := func(v, mask, low, high uint64, n int) api.Entry {
		return api.Entry{Matches: []api.Match{{Value: number(8, v), Mask: number(8, mask)}, {Value: number(8, low), Mask: number(8, high)}}, Priority: n, Action: "g"}
	}
	w.Tables[0].Entries = []api.Entry{prefix(1, 0x8000, 1, "f", number(8, 255), api.Bits{W: 128, Hi: 1, Lo: 2}), prefix(1, 0x8000, 2, "g"), prefix(2, 0x8000, 1, "g")}
	w.Tables[1].Entries = []api.Entry{weighed(1, 3, 4, 5, 1), weighed(1, 3, 4, 5, 2)}
	w.Tables[2].Entries = []api.Entry{{Action: "g"}}
	w.Groups[3].Ports = []int{0, 65535}
	w.Groups[15].Ports = make([]int, 16)
	w.Now, w.Random = 77, math.MaxUint64
	return w
}

// spoilt is a world of the program to which something was done.
func spoilt(t *testing.T, p api.Program, do func(w *api.World)) api.World {
	t.Helper()
	w := filledWorld(t, p)
	do(&w)
	return w
}

// refused asks for ErrArg, and nothing beside it.
func refused(t *testing.T, what string, p api.Program, w api.World) {
	t.Helper()
	if got := run(p, w, 1, nil); !same(got, answered{E: api.ErrArg}) {
		t.Errorf("%s: %.2000s", what, told(got))
	}
}

func TestWorlds(t *testing.T) { // P15.2, P15.3
	p := parsed(t, tables)
	for name, do := range map[string]func(w *api.World){
		"as it is":            func(w *api.World) {},
		"Now 0":               func(w *api.World) { w.Now = 0 },
		"Now greatest":        func(w *api.World) { w.Now = math.MaxInt },
		"Random 0":            func(w *api.World) { w.Random = 0 },
		"no entries":          func(w *api.World) { w.Tables[0].Entries = nil },
		"another default":     func(w *api.World) { w.Tables[0].Default, w.Tables[0].Args = "g", nil },
		"other args":          func(w *api.World) { w.Tables[0].Args = []api.Bits{number(8, 0), number(128, 0)} },
		"another priority":    func(w *api.World) { w.Tables[1].Entries[0].Priority = math.MaxInt32 },
		"a prefix of none":    func(w *api.World) { w.Tables[0].Entries[0].Matches[1] = api.Match{Value: number(16, 0)} },
		"a whole prefix":      func(w *api.World) { w.Tables[0].Entries[0].Matches[1] = api.Match{Value: number(16, 0x8001), Len: 16} },
		"cells":               func(w *api.World) { w.Arrays[0].Cells[1].Lo, w.Arrays[1].Cells[2].Lo = 31, math.MaxUint64 },
		"tokens":              func(w *api.World) { w.Arrays[2].Cells[0].Lo, w.Arrays[2].Cells[1].Lo = 9, 0 },
		"ticks":               func(w *api.World) { w.Arrays[2].Last[1] = math.MaxInt },
		"16 ports":            func(w *api.World) { w.Groups[0].Ports = slices.Repeat([]int{65535}, 16) },
		"no ports":            func(w *api.World) { w.Groups[15].Ports = nil },
		"entries in no order": func(w *api.World) { slices.Reverse(w.Tables[0].Entries) },
	} {
		w := spoilt(t, p, do)
		if got := run(p, w, 1, []byte("ab")); !same(got, answered{Pass: api.Pass{End: api.EndSent, Packet: []byte("ab")}, World: w}) {
			t.Errorf("%s: %.2000s", name, told(got))
		}
	}
}

func TestWrongWorlds(t *testing.T) { // P15.2
	p := parsed(t, tables)
	entry := func(at int, do func(e *api.Entry)) func(w *api.World) {
		return func(w *api.World) { do(&w.Tables[at].Entries[0]) }
	}
	for name, do := range map[string]func(w *api.World){
		"nothing":              func(w *api.World) { *w = api.World{} },
		"Now below 0":          func(w *api.World) { w.Now = -1 },
		"Now far below 0":      func(w *api.World) { w.Now = math.MinInt },
		"no groups":            func(w *api.World) { w.Groups = nil },
		"15 groups":            func(w *api.World) { w.Groups = w.Groups[:15] },
		"17 groups":            func(w *api.World) { w.Groups = append(w.Groups, api.Group{}) },
		"17 ports":             func(w *api.World) { w.Groups[15].Ports = make([]int, 17) },
		"a port below 0":       func(w *api.World) { w.Groups[0].Ports = []int{1, -1} },
		"a port above all":     func(w *api.World) { w.Groups[15].Ports[15] = 65536 },
		"no tables":            func(w *api.World) { w.Tables = nil },
		"a table less":         func(w *api.World) { w.Tables = w.Tables[:2] },
		"a table more":         func(w *api.World) { w.Tables = append(w.Tables, w.Tables[2]) },
		"another table's name": func(w *api.World) { w.Tables[2].Name = "x" },
		"a table's no name":    func(w *api.World) { w.Tables[0].Name = "" },
		"tables in another order": func(w *api.World) {
			w.Tables[0].Entries, w.Tables[1].Entries = nil, nil
			w.Tables[0], w.Tables[1] = w.Tables[1], w.Tables[0]
		},
		"an entry more than its size": func(w *api.World) {
			e := copied(w.Tables[0].Entries[2], 0)
			e.Matches[0].Value.Lo = 9
			w.Tables[0].Entries = append(w.Tables[0].Entries, e)
		},
		"two of one place":             func(w *api.World) { w.Tables[0].Entries[2] = copied(w.Tables[0].Entries[1], 0) },
		"two of one place, far apart":  func(w *api.World) { w.Tables[0].Entries[0].Matches = copied(w.Tables[0].Entries[2].Matches, 0) },
		"two of one priority":          func(w *api.World) { w.Tables[1].Entries[1].Priority = 1 },
		"two without matches":          func(w *api.World) { w.Tables[2].Entries = slices.Repeat(w.Tables[2].Entries, 2) },
		"no default":                   func(w *api.World) { w.Tables[0].Default = "" },
		"a default that it has not":    func(w *api.World) { w.Tables[1].Default = "other" },
		"a default that is none":       func(w *api.World) { w.Tables[1].Default = "h" },
		"a default with too few args":  func(w *api.World) { w.Tables[0].Args = w.Tables[0].Args[:1] },
		"a default with too many args": func(w *api.World) { w.Tables[1].Args = []api.Bits{number(8, 1)} },
		"a default without args":       func(w *api.World) { w.Tables[0].Args = nil },
		"a default's args too wide":    func(w *api.World) { w.Tables[0].Args[0].W = 9 },
		"a default's arg above all":    func(w *api.World) { w.Tables[0].Args[0].Lo = 256 },
		"another default's args":       func(w *api.World) { w.Tables[0].Default = "g" },
		"an action that it has not":    entry(0, func(e *api.Entry) { e.Action, e.Args = "other", nil }),
		"an action that is none":       entry(0, func(e *api.Entry) { e.Action, e.Args = "", nil }),
		"an action that is a table":    entry(0, func(e *api.Entry) { e.Action, e.Args = "t", nil }),
		"too few args":                 entry(0, func(e *api.Entry) { e.Args = e.Args[1:] }),
		"too many args":                entry(1, func(e *api.Entry) { e.Args = []api.Bits{number(8, 1)} }),
		"args of another action":       entry(0, func(e *api.Entry) { e.Action = "g" }),
		"args in another order":        entry(0, func(e *api.Entry) { slices.Reverse(e.Args) }),
		"an arg too narrow":            entry(0, func(e *api.Entry) { e.Args[1] = number(127, 1) }),
		"an arg with bits above":       entry(0, func(e *api.Entry) { e.Args[0].Hi = 1 }),
		"a match less":                 entry(0, func(e *api.Entry) { e.Matches = e.Matches[:1] }),
		"a match more":                 entry(0, func(e *api.Entry) { e.Matches = append(e.Matches, e.Matches[0]) }),
		"a match where there is none":  entry(2, func(e *api.Entry) { e.Matches = []api.Match{{Value: number(8, 1)}} }),
		"a value too narrow":           entry(0, func(e *api.Entry) { e.Matches[1].Value = number(15, 0) }),
		"a value too wide":             entry(0, func(e *api.Entry) { e.Matches[0].Value.W = 9 }),
		"a mask of an exact key":       entry(0, func(e *api.Entry) { e.Matches[0].Mask = number(8, 255) }),
		"a Len of an exact key":        entry(0, func(e *api.Entry) { e.Matches[0].Len = 8 }),
		"a Len above the width":        entry(0, func(e *api.Entry) { e.Matches[1].Len = 17 }),
		"bits behind the prefix":       entry(0, func(e *api.Entry) { e.Matches[1].Value.Lo = 0xc000 }),
		"a mask too wide":              entry(1, func(e *api.Entry) { e.Matches[0].Mask.W = 9 }),
		"bits beside the mask":         entry(1, func(e *api.Entry) { e.Matches[0].Value.Lo = 4 }),
		"a range the wrong way round":  entry(1, func(e *api.Entry) { e.Matches[1].Value.Lo = 6 }),
		"a priority where none weighs": entry(0, func(e *api.Entry) { e.Priority = 1 }),
		"no priority":                  entry(1, func(e *api.Entry) { e.Priority = 0 }),
		"a priority above all":         entry(1, func(e *api.Entry) { e.Priority = math.MaxInt32 + 1 }),
		"no arrays":                    func(w *api.World) { w.Arrays = nil },
		"an array less":                func(w *api.World) { w.Arrays = w.Arrays[:2] },
		"an array more":                func(w *api.World) { w.Arrays = append(w.Arrays, w.Arrays[1]) },
		"arrays in another order":      func(w *api.World) { slices.Reverse(w.Arrays) },
		"another array's name":         func(w *api.World) { w.Arrays[0].Name = "k" },
		"another kind": func(w *api.World) {
			w.Arrays[1] = api.Array{Name: "k", Kind: api.DeRegister, W: 64, Cells: w.Arrays[1].Cells}
		},
		"another width": func(w *api.World) {
			w.Arrays[0].W, w.Arrays[0].Cells = 6, []api.Bits{number(6, 0), number(6, 0)}
		},
		"another rate":                  func(w *api.World) { w.Arrays[2].Rate = 8 },
		"another burst":                 func(w *api.World) { w.Arrays[2].Burst = 10 },
		"a rate of a counter":           func(w *api.World) { w.Arrays[1].Rate = 1 },
		"a cell less":                   func(w *api.World) { w.Arrays[1].Cells = w.Arrays[1].Cells[:2] },
		"a cell more":                   func(w *api.World) { w.Arrays[0].Cells = append(w.Arrays[0].Cells, number(5, 0)) },
		"a cell of another width":       func(w *api.World) { w.Arrays[0].Cells[1] = number(4, 0) },
		"a cell with bits above":        func(w *api.World) { w.Arrays[0].Cells[1].Lo = 32 },
		"more tokens than burst":        func(w *api.World) { w.Arrays[2].Cells[1].Lo = 10 },
		"a tick less":                   func(w *api.World) { w.Arrays[2].Last = w.Arrays[2].Last[:1] },
		"a tick below 0":                func(w *api.World) { w.Arrays[2].Last[0] = -1 },
		"ticks of a register":           func(w *api.World) { w.Arrays[0].Last = []int{0, 0} },
		"what another program's has":    func(w *api.World) { *w = filledWorld(t, parsed(t, tables+" counter x 1;")) },
		"without what the program's is": func(w *api.World) { *w, _ = source.New(nil) },
	} {
		refused(t, name, p, spoilt(t, p, do))
	}
	w, _ := source.New(p)
	refused(t, "a world of something for a program of nothing", nil, w)
}

// TestWideTables: keys as many, and entries as many, as may be, and one more.
func TestWideTables(t *testing.T) { // P15.2
	s := "action f(){} table t{key{"
	for range 64 {
		s += "meta.port range;"
	}
	p := parsed(t, s+"} actions f; default f(); size 4096;} control{apply t;}")
	w, _ := source.New(p)
	for i := range 4097 {
		e := api.Entry{Priority: 1 + i%7, Action: "f"}
		for k := range 64 {
			low := 0
			if k == 63 {
				low = i
			}
			e.Matches = append(e.Matches, api.Match{Value: number(16, uint64(low)), Mask: number(16, 65535)})
		}
		w.Tables[0].Entries = append(w.Tables[0].Entries, e)
	}
	refused(t, "an entry more than may be", p, w)
	last := w.Tables[0].Entries[4096]
	w.Tables[0].Entries = w.Tables[0].Entries[:4096]
	if got := run(p, w, 3, nil); got.E != api.OK || !same(got.World, w) || !same(got.Pass.Effects, []api.Effect{{Kind: api.EfHit, Table: "t", Entry: 3}}) {
		t.Errorf("as many as may be: %d, %+v", got.E, got.Pass)
	}
	last.Matches, last.Priority = copied(w.Tables[0].Entries[0].Matches, 0), 1
	w.Tables[0].Entries[4095] = last
	refused(t, "the first and the last one of one place", p, w)
}

// isWorld says whether a world is a program's, as the chapter has it.
func isWorld(p api.Program, w api.World) bool {
	all := func(kinds ...api.DeclKind) []api.Decl {
		return slices.DeleteFunc(slices.Clone(p), func(d api.Decl) bool { return !slices.Contains(kinds, d.Kind) })
	}
	rows, arrays := all(api.DeTable), all(api.DeRegister, api.DeCounter, api.DeMeter)
	ok := w.Now >= 0 && len(w.Groups) == 16 && len(w.Tables) == len(rows) && len(w.Arrays) == len(arrays)
	for i := 0; ok && i < len(rows); i++ {
		ok = areRows(p, rows[i], w.Tables[i])
	}
	for i := 0; ok && i < len(arrays); i++ {
		ok = isArray(arrays[i], w.Arrays[i])
	}
	for _, g := range w.Groups {
		ok = ok && len(g.Ports) <= 16
		for _, port := range g.Ports {
			ok = ok && port == int(uint16(port))
		}
	}
	return ok
}

func areRows(p api.Program, d api.Decl, r api.Rows) bool {
	does := func(action string, args []api.Bits) bool {
		for _, a := range p {
			if a.Kind == api.DeAction && a.Name == action && len(a.Fields) == len(args) {
				ok := slices.Contains(d.Actions, action)
				for i, f := range a.Fields {
					ok = ok && args[i].W == f.W && bits.Check(args[i])
				}
				return ok
			}
		}
		return false
	}
	t := match.Table{Size: d.N}
	for _, k := range d.Keys {
		width, _ := types.Width(p, nil, k.Expr)
		t.Kinds, t.Widths = append(t.Kinds, k.Kind), append(t.Widths, width)
	}
	var l []api.Entry
	for _, e := range r.Entries {
		var fault api.Errno
		if l, fault = match.Insert(t, l, e); fault != api.OK || !does(e.Action, e.Args) {
			return false
		}
	}
	return r.Name == d.Name && does(r.Default, r.Args)
}

func isArray(d api.Decl, a api.Array) bool {
	width := map[api.DeclKind]int{api.DeRegister: d.W, api.DeCounter: 64, api.DeMeter: 64}[d.Kind]
	ok := a.Name == d.Name && a.Kind == d.Kind && a.W == width && a.Rate == d.Rate && a.Burst == d.Burst && len(a.Cells) == d.N
	for _, c := range a.Cells {
		ok = ok && c.W == width && bits.Check(c) && (d.Kind != api.DeMeter || c.Lo <= uint64(d.Burst))
	}
	ticks := 0
	if d.Kind == api.DeMeter {
		ticks = d.N
	}
	return ok && len(a.Last) == ticks && !slices.ContainsFunc(a.Last, func(n int) bool { return n < 0 })
}

// spoil changes one thing of v, and tells which: what a list has, or what is in one of its parts.
func spoil(r *rand.Rand, v reflect.Value) string {
	switch v.Kind() {
	case reflect.Struct:
		i := r.IntN(v.NumField())
		return v.Type().Field(i).Name + " " + spoil(r, v.Field(i))
	case reflect.Slice:
		if v.Len() == 0 || r.IntN(6) == 0 {
			return spoilList(r, v)
		}
		return spoil(r, v.Index(r.IntN(v.Len())))
	case reflect.String:
		v.SetString(pick(r, []string{"", "f0", "f1", "t0", "r0", "h0", v.String() + "x"}))
	case reflect.Int:
		v.SetInt(pick(r, []int64{v.Int() - 1, v.Int() + 1, -1, 0, 1, 65535, 65536, math.MaxInt64, math.MinInt64}))
	case reflect.Uint64:
		v.SetUint(pick(r, []uint64{v.Uint() - 1, v.Uint() + 1, 0, 1, r.Uint64(), math.MaxUint64}))
	case reflect.Uint8:
		v.SetUint(uint64(r.IntN(256)))
	}
	return ""
}

func spoilList(r *rand.Rand, v reflect.Value) string {
	one := reflect.New(v.Type().Elem()).Elem()
	if v.Len() == 0 {
		v.Set(reflect.Append(v, one))
		return "more"
	}
	at := r.IntN(v.Len())
	switch r.IntN(3) {
	case 0:
		v.Set(reflect.AppendSlice(v.Slice(0, at), v.Slice(at+1, v.Len())))
		return "less"
	case 1:
		v.Set(reflect.Append(v, copiedValue(v.Index(at), 0)))
		return "twice"
	}
	other := r.IntN(v.Len())
	one.Set(v.Index(at))
	v.Index(at).Set(v.Index(other))
	v.Index(other).Set(one)
	return "in another order"
}

// TestSpoiltWorlds: worlds of which one thing is another are the program's, or are not.
func TestSpoiltWorlds(t *testing.T) { // P15.2, P15.3, R1
	t.Parallel()
	r := dice(7)
	yes, no := map[string]int{}, map[string]int{}
	for n := range 500 {
		m := made(r, n%20)
		if _, e := print.Text(m.p); e == api.ErrLimit {
			continue
		}
		for range 20 {
			w := copied(m.world(), 0)
			what := spoil(r, reflect.ValueOf(&w).Elem())
			if isWorld(m.p, w) {
				yes[what]++
				w.Now = min(w.Now, 1000)
				sameRun(t, m.p, w, r.IntN(65536), m.bytes())
				continue
			}
			no[what]++
			if got := run(m.p, w, 1, nil); !same(got, answered{E: api.ErrArg}) {
				t.Fatalf("%s: %.2000s of %.4000s, %.4000s", what, told(got), told(m.p), told(w))
			}
		}
	}
	if len(yes) < 15 || len(no) < 30 {
		t.Errorf("the sample says too little: %v, %v", yes, no)
	}
}
