package rules_test

import (
	"fmt"
	"math"
	"slices"
	"strings"
	"testing"

	"pointsman/api"
	"pointsman/parse"
	"pointsman/rules"
	"pointsman/source"
	"pointsman/types"
)

func number(w int, lo uint64) api.Bits { return api.Bits{W: w, Lo: lo} }

func parsed(t testing.TB, s string) api.Program {
	t.Helper()
	p, line, e := parse.Parse(s)
	if e != api.OK {
		t.Fatalf("Parse(%.2000q): %d, %d", s, line, e)
	}
	return p
}

func fresh(t testing.TB, p api.Program) api.World {
	t.Helper()
	w, e := source.New(p)
	if e != api.OK {
		t.Fatalf("New: %d", e)
	}
	return w
}

// tabled is all that a call of Table answers.
type tabled struct {
	Kinds  []api.KeyKind
	Widths []int
	Size   int
	E      api.Errno
}

func table(p api.Program, name string) tabled {
	kinds, widths, size, e := rules.Table(p, name)
	return tabled{kinds, widths, size, e}
}

// written is all that a call of Write answers.
type written struct {
	World api.World
	At    int
	E     api.Errno
}

func write(p api.Program, w api.World, l ...api.Update) written {
	behind, at, e := rules.Write(p, w, l)
	return written{behind, at, e}
}

// answered is all that a call of Read answers.
type answered struct {
	Reply api.Reply
	E     api.Errno
}

func read(p api.Program, w api.World, r api.Request) answered {
	reply, e := rules.Read(p, w, r)
	return answered{reply, e}
}

// chapter is the program of the chapter's examples.
const chapter = "header h { a 8; } parser { start { take h; go accept; } } action f(p 16) { meta.out = p; } table t { key { h.a exact; } actions f; default f(16w1); size 1; } control { apply t; } deparser { h; }"

func TestExamples(t *testing.T) { // P19.1, P19.2, P19.3
	p := parsed(t, chapter)
	w := fresh(t, p)
	if got := table(p, "t"); !same(got, tabled{Kinds: []api.KeyKind{api.KeExact}, Widths: []int{8}, Size: 1}) {
		t.Errorf("Table(t) = %+v", got)
	}
	if got := table(p, "u"); !same(got, tabled{E: api.ErrName}) {
		t.Errorf("Table(u) = %+v", got)
	}
	insert := func(action string, arg api.Bits) api.Update {
		return api.Update{Kind: api.UpInsert, Table: "t", Entry: api.Entry{Matches: []api.Match{{Value: number(8, 5)}}, Action: action, Args: []api.Bits{arg}}}
	}
	five := insert("f", number(16, 9))
	want := fresh(t, p)
	want.Tables[0].Entries = []api.Entry{five.Entry}
	got := write(p, w, five)
	if !same(got, written{World: want}) {
		t.Fatalf("insert 8w5 f 16w9: %+v", got)
	}
	if got := read(p, got.World, api.Request{Kind: api.RqRead, Table: "t"}); !same(got, answered{Reply: api.Reply{Entries: []api.Entry{five.Entry}}}) {
		t.Errorf("Read(t) = %+v", got)
	}
	for _, c := range []struct {
		l    []api.Update
		want written
	}{
		{[]api.Update{five, five}, written{At: 1, E: api.ErrThere}},
		{[]api.Update{insert("f", number(8, 9))}, written{E: api.ErrWidth}},
		{[]api.Update{insert("g", number(16, 9))}, written{E: api.ErrName}},
	} {
		if got := write(p, w, c.l...); !same(got, c.want) {
			t.Errorf("Write(%+v) = %+v, want %+v", c.l, got, c.want)
		}
	}
}

// wrong are programs that may not be, with what types.Check says of them. Each has a table t.
func wrong(t *testing.T) map[api.Errno]api.Program {
	t.Helper()
	const good = "action f(){} table t{key{} actions f; default f(); size 1;} "
	l := map[api.Errno]api.Program{
		api.ErrArg:   parsed(t, good+"header h{a 7;}"),
		api.ErrName:  parsed(t, good+"control{apply u;}"),
		api.ErrWidth: parsed(t, good+"control{meta.out=8w1;}"),
		api.ErrLimit: parsed(t, good+counters(255)),
	}
	for want, p := range l {
		if _, e := types.Check(p); e != want {
			t.Fatalf("Check: %d, want %d", e, want)
		}
	}
	return l
}

// counters are so many declarations.
func counters(n int) string {
	var s strings.Builder
	for i := range n {
		fmt.Fprintf(&s, "counter c%d 1;", i)
	}
	return s.String()
}

// TestWrongPrograms: what types.Check says of a program comes ahead of whatever else is wrong.
func TestWrongPrograms(t *testing.T) { // P19.1, P19.2, P19.3, R2
	for e, p := range wrong(t) {
		for _, name := range []string{"t", "x", ""} {
			if got := table(p, name); !same(got, tabled{E: e}) {
				t.Errorf("%d: Table(%q) = %+v", e, name, got)
			}
		}
		good := fresh(t, parsed(t, "action f(){} table t{key{} actions f; default f(); size 1;}"))
		for _, w := range []api.World{good, {}} {
			for _, l := range [][]api.Update{nil, {{}}, make([]api.Update, 65)} {
				if got := write(p, w, l...); !same(got, written{E: e}) {
					t.Errorf("%d: Write of %d = %+v", e, len(l), got)
				}
			}
			for _, r := range []api.Request{{}, {Kind: api.RqRead, Table: "t"}, {Kind: api.RqCells, Table: "x"}} {
				if got := read(p, w, r); !same(got, answered{E: e}) {
					t.Errorf("%d: Read(%+v) = %+v", e, r, got)
				}
			}
		}
	}
	// What no text has is no program either.
	for _, p := range []api.Program{{{}}, {{Kind: 255, Name: "t"}}, {{Kind: api.DeTable, Name: "t"}}} {
		if table(p, "t").E != api.ErrArg || write(p, api.World{}).E != api.ErrArg || read(p, api.World{}, api.Request{}).E != api.ErrArg {
			t.Errorf("%+v: %+v", p, table(p, "t"))
		}
	}
}

// TestTableKeys: a table of one key of each kind, whatever it is made of.
func TestTableKeys(t *testing.T) { // P19.1
	for key, width := range map[string]int{
		"7w5": 7, "1w1": 1, "128w0": 128, "h.a": 8, "h.b": 128, "meta.port": 16, "meta.out": 16, "meta.m": 5, "valid h": 1, "h.a[6:2]": 5, "h.b[127:0]": 128, "h.b[64:64]": 1,
		"cast 65(h.a)": 65, "hash crc16(h.a)": 16, "hash crc32(h.a,h.b)": 32, "~meta.m": 5, "h.a+8w1": 8, "h.b==h.b": 1, "h.a<<h.b": 8, "h.a++meta.m": 13, "valid h||1w0": 1,
	} {
		for kind, word := range map[api.KeyKind]string{api.KeExact: "exact", api.KePrefix: "prefix", api.KeMask: "mask", api.KeRange: "range"} {
			for _, size := range []int{1, 77, 4096} {
				// The table stands ahead of what it names.
				p := parsed(t, fmt.Sprintf("table t{key{%s %s;} actions f; default f(); size %d;} header h{a 8;b 128;} meta{m 5;} action f(){}", key, word, size))
				if got := table(p, "t"); !same(got, tabled{[]api.KeyKind{kind}, []int{width}, size, api.OK}) {
					t.Errorf("%s %s, size %d: %+v, want %d wide", key, word, size, got, width)
				}
			}
		}
	}
}

// many is a program of a table with so many keys, each of another width than the one ahead.
func many(keys, size int) string {
	var s strings.Builder
	for i := range keys {
		fmt.Fprintf(&s, "cast %d(meta.port) %s;", i+1, []string{"exact", "mask", "range"}[i%3])
	}
	return fmt.Sprintf("action f(){} table t{key{%s} actions f; default f(); size %d;}", s.String(), size)
}

func TestTableOfManyKeys(t *testing.T) { // P19.1
	for _, n := range []int{0, 1, 2, 63, 64} {
		want := tabled{Size: n + 1}
		for i := range n {
			want.Kinds = append(want.Kinds, []api.KeyKind{api.KeExact, api.KeMask, api.KeRange}[i%3])
			want.Widths = append(want.Widths, i+1)
		}
		if got := table(parsed(t, many(n, n+1)), "t"); !same(got, want) {
			t.Errorf("%d keys: %+v, want %+v", n, got, want)
		}
	}
	if got := table(parsed(t, many(65, 1)), "t"); !same(got, tabled{E: api.ErrLimit}) {
		t.Errorf("65 keys: %+v", got)
	}
}

// three is a program with all that a world may have.
const three = `header h{a 8;b 8;} action f(p 8,q 128){} action g(){} action other(){} register r 5 2; counter k 3; meter y 2 7 9; meta{m 1;} parser{start{go accept;}}
	table t{key{h.a exact;h.a++h.b prefix;} actions f g; default f(8w1,128w2); size 3;} table u{key{h.a mask;h.b+8w1 range;} actions g f; default g(); size 2;} table v{key{} actions g; default g(); size 1;}
	control{apply v;apply u;apply t;} deparser{h;}`

// notTables are names that no table of three has.
func notTables() []string {
	return []string{"", "x", "h", "a", "h.a", "f", "g", "other", "r", "k", "y", "meta", "m", "start", "accept", "T", "tt", "t ", " t", "table", "parser", "control", "deparser", "t\x00", strings.Repeat("t", 9999)}
}

func TestTableNames(t *testing.T) { // P19.1
	p := parsed(t, three)
	for name, want := range map[string]tabled{
		"t": {Kinds: []api.KeyKind{api.KeExact, api.KePrefix}, Widths: []int{8, 16}, Size: 3},
		"u": {Kinds: []api.KeyKind{api.KeMask, api.KeRange}, Widths: []int{8, 8}, Size: 2},
		"v": {Size: 1},
	} {
		if got := table(p, name); !same(got, want) {
			t.Errorf("Table(%s) = %+v, want %+v", name, got, want)
		}
	}
	for _, name := range notTables() {
		if got := table(p, name); !same(got, tabled{E: api.ErrName}) {
			t.Errorf("Table(%.20q) = %+v", name, got)
		}
	}
	if got := table(nil, "t"); !same(got, tabled{E: api.ErrName}) {
		t.Errorf("of no program: %+v", got)
	}
}

// filledWorld is a world of three with something in all of its lists. Of each table but t, which has room for one more, all rows are taken.
func filledWorld(t testing.TB, p api.Program) api.World {
	t.Helper()
	w := fresh(t, p)
	w.Tables[0].Entries = []api.Entry{ofT(1, 0x8000, 1, "f", number(8, 255), api.Bits{W: 128, Hi: 1, Lo: 2}), ofT(1, 0x8000, 2, "g")}
	w.Tables[1].Entries = []api.Entry{ofU(1, 3, 4, 5, 1, "g"), ofU(1, 3, 4, 5, 2, "g")}
	w.Tables[2].Entries = []api.Entry{{Action: "g"}}
	w.Arrays[0].Cells[1].Lo, w.Arrays[1].Cells[2].Lo, w.Arrays[2].Cells[0].Lo = 31, math.MaxUint64, 4
	w.Arrays[2].Last[1] = 6
	w.Groups[3].Ports, w.Groups[15].Ports = []int{0, 65535}, []int{7}
	w.Now, w.Random = 77, math.MaxUint64
	return w
}

// ofT is an entry of the table t of three.
func ofT(a, b uint64, n int, action string, args ...api.Bits) api.Entry {
	return api.Entry{Matches: []api.Match{{Value: number(8, a)}, {Value: number(16, b), Len: n}}, Action: action, Args: args}
}

// ofU likewise.
func ofU(v, mask, low, high uint64, priority int, action string, args ...api.Bits) api.Entry {
	return api.Entry{Matches: []api.Match{{Value: number(8, v), Mask: number(8, mask)}, {Value: number(8, low), Mask: number(8, high)}}, Priority: priority, Action: action, Args: args}
}

func TestReadRows(t *testing.T) { // P19.3
	p := parsed(t, three)
	full, empty := filledWorld(t, p), fresh(t, p)
	for i, name := range []string{"t", "u", "v"} {
		r := api.Request{Kind: api.RqRead, Table: name}
		if got := read(p, full, r); len(got.Reply.Entries) == 0 || !same(got, answered{Reply: api.Reply{Entries: full.Tables[i].Entries}}) {
			t.Errorf("Read(%s) = %+v", name, got)
		}
		if got := read(p, empty, r); !same(got, answered{}) {
			t.Errorf("Read(%s) of no entries = %+v", name, got)
		}
	}
	for _, name := range notTables() {
		if got := read(p, full, api.Request{Kind: api.RqRead, Table: name}); !same(got, answered{E: api.ErrName}) {
			t.Errorf("Read(%.20q) = %+v", name, got)
		}
	}
}

func TestReadCells(t *testing.T) { // P19.3
	p := parsed(t, three)
	w := filledWorld(t, p)
	for _, a := range w.Arrays {
		for i, c := range a.Cells {
			if got := read(p, w, api.Request{Kind: api.RqCells, Table: a.Name, N: i}); !same(got, answered{Reply: api.Reply{Value: c}}) {
				t.Errorf("cell %d of %s: %+v, want %v", i, a.Name, got, c)
			}
		}
		for _, n := range []int{-1, len(a.Cells), len(a.Cells) + 1, 4096, math.MinInt, math.MaxInt, 1 << 32, math.MinInt32} {
			if got := read(p, w, api.Request{Kind: api.RqCells, Table: a.Name, N: n}); !same(got, answered{E: api.ErrGone}) {
				t.Errorf("cell %d of %s: %+v", n, a.Name, got)
			}
		}
	}
	names := slices.DeleteFunc(notTables(), func(s string) bool { return s == "r" || s == "k" || s == "y" })
	for _, name := range append(names, "t", "u", "v") {
		for _, n := range []int{0, -1, 9} {
			if got := read(p, w, api.Request{Kind: api.RqCells, Table: name, N: n}); !same(got, answered{E: api.ErrName}) {
				t.Errorf("cell %d of %.20q: %+v", n, name, got)
			}
		}
	}
}

// TestReadGreatest: the last cell, and the rows, of what is as great as may be.
func TestReadGreatest(t *testing.T) { // P19.3
	p := parsed(t, "register r 128 4096; action f(){} table t{key{meta.port exact;} actions f; default f(); size 4096;}")
	w := fresh(t, p)
	for i := range 4096 {
		w.Tables[0].Entries = append(w.Tables[0].Entries, api.Entry{Matches: []api.Match{{Value: number(16, uint64(i))}}, Action: "f"})
		w.Arrays[0].Cells[i] = api.Bits{W: 128, Hi: uint64(i), Lo: math.MaxUint64}
	}
	if got := read(p, w, api.Request{Kind: api.RqRead, Table: "t"}); !same(got, answered{Reply: api.Reply{Entries: w.Tables[0].Entries}}) {
		t.Errorf("%d entries, %d", len(got.Reply.Entries), got.E)
	}
	for n, want := range map[int]answered{4095: {Reply: api.Reply{Value: api.Bits{W: 128, Hi: 4095, Lo: math.MaxUint64}}}, 4096: {E: api.ErrGone}} {
		if got := read(p, w, api.Request{Kind: api.RqCells, Table: "r", N: n}); !same(got, want) {
			t.Errorf("cell %d: %+v", n, got)
		}
	}
}

// TestWrongRequests: what no request may have comes ahead of names and cells that are not there.
func TestWrongRequests(t *testing.T) { // P19.3, R2
	p := parsed(t, three)
	w := filledWorld(t, p)
	bad := filledWorld(t, p)
	bad.Now = -1
	good := []api.Request{{Kind: api.RqRead, Table: "t"}, {Kind: api.RqCells, Table: "r", N: 1}, {Kind: api.RqRead, Table: "x"}, {Kind: api.RqCells, Table: "x"}, {Kind: api.RqCells, Table: "r", N: 2}}
	for _, r := range good {
		r.Updates = []api.Update{}
		if got := read(p, w, r); got.E == api.ErrArg {
			t.Errorf("%+v: %+v", r, got)
		}
		if got := read(p, bad, r); !same(got, answered{E: api.ErrArg}) {
			t.Errorf("of no world, %+v: %+v", r, got)
		}
		for what, do := range map[string]func(r *api.Request){
			"a source":    func(r *api.Request) { r.Source = "x" },
			"an update":   func(r *api.Request) { r.Updates = []api.Update{{}} },
			"no kind":     func(r *api.Request) { r.Kind = api.RqNone },
			"an install":  func(r *api.Request) { r.Kind = api.RqInstall },
			"a write":     func(r *api.Request) { r.Kind = api.RqWrite },
			"kind 5":      func(r *api.Request) { r.Kind = api.RqCells + 1 },
			"kind 255":    func(r *api.Request) { r.Kind = 255 },
			"rows, cell":  func(r *api.Request) { r.Kind, r.N = api.RqRead, 1 },
			"rows, below": func(r *api.Request) { r.Kind, r.N = api.RqRead, -1 },
			"rows, far":   func(r *api.Request) { r.Kind, r.N = api.RqRead, math.MinInt },
		} {
			spoilt := r
			do(&spoilt)
			if got := read(p, w, spoilt); !same(got, answered{E: api.ErrArg}) {
				t.Errorf("%s, %+v: %+v", what, spoilt, got)
			}
		}
	}
	if got := read(p, w, api.Request{}); !same(got, answered{E: api.ErrArg}) {
		t.Errorf("nothing: %+v", got)
	}
}
