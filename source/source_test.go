package source_test

import (
	"fmt"
	"math"
	"slices"
	"strings"
	"testing"

	"pointsman/api"
	"pointsman/parse"
	"pointsman/source"
	"pointsman/types"
)

func parsed(t *testing.T, s string) api.Program {
	t.Helper()
	p, line, e := parse.Parse(s)
	if e != api.OK {
		t.Fatalf("Parse(%.2000q): %d, %d", s, line, e)
	}
	return p
}

const chapter = "header h { a 8; b 8; } parser { start { take h; go accept; } } control { h.b = h.b + 8w1; meta.out = 16w7; } deparser { h; }"

// every has all kinds of declarations and of statements.
const every = `header h { a 8 ; b 16 ; } header g { c 4 ; d 1 ; e 3 ; } meta { m 8 ; f 1 ; } register r 16 4 ; register u 1 2 ; counter k 4 ; meter y 4 1 1 ;
parser { s { take g ; go accept ; } start { take h ; select h . a { 8w1 : s ; 8w2 & 8wf : reject ; else accept ; } } }
action n ( ) { } action o ( p 8 , q 16 ) { h . a = p ; meta . out = q ; } table t { key { h . a exact ; h . b + 16w1 mask ; } actions o n ; default o ( 8w1 , 16w2 ) ; size 5 ; }
control { if valid g && g . d { apply t ; } else { o ( h . a , h . b ) ; } make g ; gone h ; count k [ h . a ] ; read h . b = r [ meta . m ] ; write u [ 1w1 ] = g . d ; meter meta . f = y [ 2w1 ] ;
random g . e ; drop ; digest h . a , hash crc32 ( h . b ) ; clone 3 ; again ; round ; g . c = ~ h . a [ 5 : 2 ] ; meta . m = cast 8 ( h . b ++ h . a ) ; }
deparser { g ; h ; }`

func TestExamples(t *testing.T) { // P15.2
	p := parsed(t, chapter)
	w, e := source.New(p)
	if e != api.OK {
		t.Fatal(e)
	}
	for _, c := range []struct {
		b    string
		want api.Pass
	}{
		{"\x01\x02\x03", api.Pass{End: api.EndSent, Packet: []byte{1, 3, 3}, Port: 7}}, {"\x01", api.Pass{End: api.EndShort}}, {"\x01\xff", api.Pass{End: api.EndSent, Packet: []byte{1, 0}, Port: 7}},
	} {
		if got := run(p, w, 3, []byte(c.b)); !same(got, answered{Pass: c.want, World: w}) {
			t.Errorf("Run(%x) = %+v, want %+v", c.b, got, c.want)
		}
	}
	if got := run(p, w, 65536, []byte{1, 2}); !same(got, answered{E: api.ErrArg}) {
		t.Errorf("a port above all: %+v", got)
	}
	refused(t, "no world", p, api.World{})
}

func TestNew(t *testing.T) { // P15.1
	groups := make([]api.Group, api.MaxGroup)
	many := []api.Bits{number(8, 1), {W: 128, Hi: 5, Lo: 6}}
	for s, want := range map[string]api.World{
		"":       {Groups: groups, Random: 1},
		chapter:  {Groups: groups, Random: 1},
		"meta{}": {Groups: groups, Random: 1},
		"meter m 2 3 5; counter c 1; register r 7 3;": {Groups: groups, Random: 1, Arrays: []api.Array{
			{Name: "m", Kind: api.DeMeter, W: 64, Rate: 3, Burst: 5, Cells: []api.Bits{number(64, 5), number(64, 5)}, Last: []int{0, 0}},
			{Name: "c", Kind: api.DeCounter, W: 64, Cells: []api.Bits{number(64, 0)}},
			{Name: "r", Kind: api.DeRegister, W: 7, Cells: []api.Bits{number(7, 0), number(7, 0), number(7, 0)}},
		}},
		"table u{key{} actions f g; default g(8w1,128w50000000000000006); size 1;} action g(p 8,q 128){} counter c 1; table t{key{meta.port exact;} actions f; default f(); size 4096;} action f(){}": {Groups: groups, Random: 1,
			Tables: []api.Rows{{Name: "u", Default: "g", Args: many}, {Name: "t", Default: "f"}}, Arrays: []api.Array{{Name: "c", Kind: api.DeCounter, W: 64, Cells: []api.Bits{number(64, 0)}}}},
	} {
		if got, e := source.New(parsed(t, s)); e != api.OK || !same(got, want) {
			t.Errorf("New(%q) = %+v, %d, want %+v", s, got, e, want)
		}
	}
}

// TestNewIsTheirs: what New answers is the program's, and has nothing in it.
func TestNewIsTheirs(t *testing.T) { // P15.1, P15.2
	r := dice(8)
	for n := range 300 {
		m := made(r, n%30)
		w, e := source.New(m.p)
		if _, fault := types.Check(m.p); fault != e {
			t.Fatalf("New(%.4000s) = %d, want %d", told(m.p), e, fault)
		}
		if e == api.OK {
			sameRun(t, m.p, w, r.IntN(65536), m.bytes())
			if !isWorld(m.p, w) || w.Now != 0 || w.Random != 1 {
				t.Fatalf("New(%.4000s) = %.4000s", told(m.p), told(w))
			}
		}
	}
}

// wrongPrograms are some that may not be, of each error.
func wrongPrograms(t *testing.T) []api.Program {
	x := []api.Expr{{Op: api.OpAdd}, {Op: api.OpAdd}}
	x[0].Args, x[1].Args = x, x
	s := []api.Stmt{{Kind: api.StIf, Args: []api.Expr{{Op: api.OpLit, Lit: api.Bits{W: 1}}}}}
	s[0].Body, s[0].Else = s, s
	programs := []api.Program{{{}}, {{Kind: api.DeHeader}}, {{Kind: 255}}, {{Kind: api.DeControl, Body: s}}, {{Kind: api.DeControl, Body: []api.Stmt{{Kind: api.StDigest, Args: x}}}}, {{Kind: api.DeControl, N: 1}}, {{Kind: api.DeParser}}, make(api.Program, 5000)}
	for k := range api.StRound + 2 {
		for n := range 3 {
			programs = append(programs, api.Program{{Kind: api.DeControl, Body: []api.Stmt{{Kind: k, Name: "x", Args: make([]api.Expr, n)}}}})
		}
	}
	for _, text := range []string{
		"header h{a 7;}", "header h{}", "control{x.a=1w1;}", "control{meta.port=8w1;}", "control{if meta.port{}}", "counter c 1;meter c 1 1 1;", "control{}control{}", "meta{port 8;}", "parser{s{go accept;}}", "parser{start{go s;}}", "parser{start{take h;go accept;}}",
		"action a(){apply t;}", "action a(p 8){meta.out=p;}", "action a(p 8){}control{a();}", "action a(){}table t{key{}actions a;default a();size 4097;}", "action a(){}table t{key{}actions a;default b();size 1;}", "control{clone 16;}", "deparser{h;}", "counter c 4097;", strings.Repeat("counter c 1;", 257),
		"control{digest 8w1" + strings.Repeat(",8w1", 64) + ";}", "control{meta.out=16w1+meta.none;}",
	} {
		programs = append(programs, parsed(t, text))
	}
	var decls api.Program
	for i := range api.MaxDecls + 1 {
		decls = append(decls, api.Decl{Kind: api.DeCounter, Name: fmt.Sprint("c", i), N: 1})
	}
	return append(programs, decls)
}

func TestWrongPrograms(t *testing.T) { // P15.1, P15.2, R1, R2
	none, _ := source.New(nil)
	seen := map[api.Errno]int{}
	for _, p := range wrongPrograms(t) {
		_, want := types.Check(p)
		if want == api.OK {
			continue
		}
		seen[want]++
		if w, e := source.New(p); e != want || !same(w, api.World{}) {
			t.Errorf("New of %d declarations = %+v, %d, want %d", len(p), w, e, want)
		}
		// The program's error is first, whatever else is wrong.
		for _, h := range []handed{{p, none, 1, nil}, {p, api.World{}, 1, nil}, {p, none, -1, nil}, {p, none, 1, make([]byte, 2049)}, {p, api.World{}, 65536, make([]byte, 2049)}} {
			if got := h.run(); !same(got, answered{E: want}) {
				t.Errorf("Run of %d declarations = %+v, want %d", len(p), got, want)
			}
		}
	}
	for _, e := range []api.Errno{api.ErrArg, api.ErrLimit, api.ErrName, api.ErrWidth} {
		if seen[e] == 0 {
			t.Errorf("no program with %d", e)
		}
	}
}

func TestPortsAndLengths(t *testing.T) { // P15.2, R2
	p := parsed(t, "control{meta.out=meta.port;}")
	w, _ := source.New(p)
	for _, c := range []struct {
		w         api.World
		port, len int
		want      api.Errno
	}{
		{w, 0, 0, api.OK}, {w, 65535, 2048, api.OK}, {w, 1, 2047, api.OK}, {w, 1, 2049, api.ErrLimit}, {w, 1, 65537, api.ErrLimit}, {w, 65535, 100000, api.ErrLimit},
		{w, -1, 0, api.ErrArg}, {w, 65536, 0, api.ErrArg}, {w, math.MinInt, 2, api.ErrArg}, {w, math.MaxInt, 2, api.ErrArg}, {w, 1 << 32, 2, api.ErrArg},
		{w, -1, 2049, api.ErrArg}, {w, 65536, 2049, api.ErrArg}, {api.World{}, 1, 2049, api.ErrArg}, {api.World{}, 1, 1, api.ErrArg}, {api.World{}, 65536, 1, api.ErrArg},
	} {
		want := answered{E: c.want}
		b := slices.Repeat([]byte{0x5a}, c.len)
		if c.want == api.OK {
			want = answered{Pass: api.Pass{End: api.EndSent, Packet: b, Port: c.port}, World: w}
		}
		if got := run(p, c.w, c.port, b); !same(got, want) {
			t.Errorf("%d bytes from %d: %.1000s", c.len, c.port, told(got))
		}
	}
}
