package lower_test

import (
	"fmt"
	"reflect"
	"slices"
	"strings"
	"sync"
	"testing"

	"pointsman/api"
	"pointsman/bits"
	"pointsman/lower"
	"pointsman/parse"
	"pointsman/types"
)

func told(x any) string { return fmt.Sprintf("%+v", x) }

// of is a text's program, and its code.
func of(t *testing.T, s string) (api.Program, api.Code) {
	t.Helper()
	p, c, line, e := lower.Of(s)
	if line != 0 || e != api.OK {
		t.Fatalf("Of(%.2000q): %d, %d", s, line, e)
	}
	q, _, _ := parse.Parse(s)
	if !same(p, q) || !same(c, coded(t, q)) {
		t.Fatalf("Of(%.2000q) = %.4000s, %.4000s", s, told(p), told(c))
	}
	return p, c
}

func TestExamples(t *testing.T) { // P11.1
	for _, p := range []api.Program{nil, {}} {
		if c := coded(t, p); !same(c, api.Code{Slots: []int{16, 16}, Meta: []int{0, 1}}) {
			t.Errorf("the code of no declarations: %+v", c)
		}
	}
	p, c := of(t, "header h { a 8; } parser { start { take h; go accept; } } deparser { h; }")
	s := c.Heads[0].Slots
	want := api.Code{Slots: c.Slots, Heads: []api.Head{{Slots: s}}, Meta: c.Meta, States: []api.Node{{Heads: []int{0}, Slot: -1, To: -1}}, Emits: []int{0}}
	if len(p) != 3 || !same(c, want) || len(s) != 1 || c.Slots[s[0]] != 8 || len(c.Slots) != 3 {
		t.Errorf("the code of a header: %+v", c)
	}
	wrong(t, "header h { a 7; }", 0, api.ErrArg)
}

// wrong asks for an error of Of, with its line and nothing beside it; Code has that of the program, if there is one.
func wrong(t *testing.T, s string, line int, want api.Errno) {
	t.Helper()
	p, c, n, e := lower.Of(s)
	if n != line || e != want || !same(p, nil) || !same(c, api.Code{}) {
		t.Errorf("Of(%.2000q) = %.2000s, %.2000s, %d, %d, want %d, %d", s, told(p), told(c), n, e, line, want)
	}
	q, _, e := parse.Parse(s)
	if e != api.OK {
		return
	}
	if c, e := lower.Code(q); e != want || !same(c, api.Code{}) {
		t.Errorf("Code(%.2000q) = %.2000s, %d, want %d", s, told(c), e, want)
	}
}

func TestWrongTexts(t *testing.T) { // P11.1, R2
	for _, c := range []struct {
		s    string
		line int
		want api.Errno
	}{
		// lex's, parse's.
		{"header h {\n$", 1, api.ErrWord}, {"16w", 0, api.ErrWord}, {"\n\n129w1", 2, api.ErrWord}, {"control {\ndrop;", 1, api.ErrSyntax}, {"header if { }", 0, api.ErrSyntax}, {"\nheader (", 1, api.ErrSyntax},
		{strings.Repeat("~", 100), 0, api.ErrSyntax}, {"control{digest " + strings.Repeat("~", 62) + "8w1;}", 0, api.ErrLimit}, {"control{" + strings.Repeat("drop;", 4096) + "}", 0, api.ErrLimit}, {strings.Repeat(" ", api.MaxSource+1), 0, api.ErrLimit},
		// A text that is wrong in several ways.
		{"header h{}\n$", 1, api.ErrWord}, {"header h{}\n\ncontrol{drop}\n", 2, api.ErrSyntax}, {"header h{}\ncontrol{digest " + strings.Repeat("~", 62) + "8w1;}", 0, api.ErrLimit},
		// types'.
		{"header h{}", 0, api.ErrArg}, {"\nheader h{a 8;a 8;}", 1, api.ErrName}, {"control{\napply t;}", 1, api.ErrName}, {"control{\n\nmeta.port=8w1;}", 2, api.ErrWidth}, {"control{}\ncontrol{}", 1, api.ErrName}, {"\nparser{}", 1, api.ErrName},
		{"control{\nclone 16;}", 1, api.ErrArg}, {"\ncontrol{digest 8w1" + strings.Repeat(",8w1", 64) + ";}", 1, api.ErrLimit}, {"action f(){}\naction g(){\nf();}", 2, api.ErrArg}, {"counter k\n0;", 0, api.ErrArg}, {strings.Repeat("counter k 1;", 2), 0, api.ErrName},
		{"meta{port 16;}", 0, api.ErrName}, {"parser{start{take h;go accept;}}", 0, api.ErrName}, {"deparser{h;}", 0, api.ErrName}, {"action f(p 8){\nmeta.out=p;}", 1, api.ErrWidth}, {"control{\nif meta.port{}}", 1, api.ErrWidth},
	} {
		wrong(t, c.s, c.line, c.want)
	}
	// A text that is as long as may be, whose form with one blank between words is longer.
	long := "deparser{" + strings.Repeat("h;", (api.MaxSource-10)/2) + "}"
	wrong(t, long, 0, api.ErrLimit)
	wrong(t, strings.Repeat("\n", api.MaxSource-1)+"$", api.MaxSource-1, api.ErrWord)
}

// TestSpoiltTexts: texts with a byte or a word changed have the error of Parse, and else that of Check, with its line.
func TestSpoiltTexts(t *testing.T) { // P11.1, R1
	t.Parallel()
	r := dice()
	seen := map[api.Errno]int{}
	words := strings.Fields(every)
	for range 4000 {
		l := slices.Clone(words)
		for range 1 + r.IntN(2) {
			at := r.IntN(len(l))
			switch r.IntN(9) {
			case 0:
				l = slices.Delete(l, at, at+1)
			case 1:
				l = slices.Insert(l, at, pick(r, words))
			case 2:
				l[at] += pick(r, []string{"$", "\x00", "\n", ";", "}", "9", "\xff"})
			default:
				// One that begins as this one does, so that it is mostly a word of its kind.
				l[at] = pick(r, slices.DeleteFunc(slices.Clone(words), func(w string) bool { return kindOf(w) != kindOf(l[at]) }))
			}
		}
		s := strings.Join(l, "\n")
		p, line, e := parse.Parse(s)
		if e == api.OK {
			line, e = types.Check(p)
		}
		seen[e]++
		if e == api.OK {
			of(t, s)
		} else {
			wrong(t, s, line, e)
		}
		if t.Failed() {
			return
		}
	}
	for _, e := range []api.Errno{api.OK, api.ErrArg, api.ErrWord, api.ErrSyntax, api.ErrName, api.ErrWidth} {
		if seen[e] < 10 {
			t.Errorf("the sample says too little: %v", seen)
		}
	}
}

// kindOf tells names, numbers of so many bits, numbers and signs apart.
func kindOf(word string) int {
	switch {
	case strings.ContainsAny(word[:1], "0123456789"):
		return strings.Count(word, "w")
	case 'a' <= word[0] && word[0] <= 'z':
		return 2 + min(len(word), 2)
	}
	return int(word[0])
}

// every has something of each kind, each word between blanks.
const every = `header h { a 8 ; b 16 ; } header g { c 4 ; d 1 ; e 3 ; } meta { m 8 ; f 1 ; } register r 16 4 ; register u 1 2 ; counter k 4 ; meter y 4 1 1 ;
parser { s { take g ; go accept ; } start { take h ; select h . a { 8w1 : s ; 8w2 & 8wf : reject ; else accept ; } } }
action n ( ) { } action o ( p 8 , q 16 ) { h . a = p ; meta . out = q ; } table t { key { h . a exact ; h . b + 16w1 mask ; } actions o n ; default o ( 8w1 , 16w2 ) ; size 5 ; }
control { if valid g && g . d { apply t ; } else { o ( h . a , h . b ) ; } make g ; gone h ; count k [ h . a ] ; read h . b = r [ meta . m ] ; write u [ 1w1 ] = g . d ; meter meta . f = y [ 2w1 ] ;
random g . e ; drop ; digest h . a , hash crc32 ( h . b ) ; clone 3 ; again ; round ; g . c = ~ h . a [ 5 : 2 ] ; meta . m = cast 8 ( h . b ++ h . a ) ; }
deparser { g ; h ; }`

// TestNoTrees: programs that no text has, or that may not be, have the error of Check.
func TestNoTrees(t *testing.T) { // P11.1, R1
	x := []api.Expr{{Op: api.OpAdd}, {Op: api.OpAdd}}
	x[0].Args, x[1].Args = x, x
	s := []api.Stmt{{Kind: api.StIf, Args: []api.Expr{{Op: api.OpLit, Lit: api.Bits{W: 1}}}}}
	s[0].Body, s[0].Else = s, s
	programs := []api.Program{{{}}, {{Kind: api.DeHeader}}, {{Kind: api.DeDeparser + 1}}, {{Kind: 255}}, {{Kind: api.DeControl, Body: s}}, {{Kind: api.DeControl, Body: []api.Stmt{{Kind: api.StDigest, Args: x}}}}, {{Kind: api.DeControl, N: 1}}, {{Kind: api.DeParser}}, {{Kind: api.DeParser, States: []api.State{{Name: "start", To: "accept", Select: make([]api.Expr, 2)}}}}, make(api.Program, 5000)}
	for k := range api.StRound + 2 {
		for n := range 3 {
			programs = append(programs, api.Program{{Kind: api.DeControl, Body: []api.Stmt{{Kind: k, Name: "x", Args: make([]api.Expr, n)}}}})
		}
	}
	for op := range api.OpHash + 2 {
		for n := range 3 {
			arg := api.Expr{Op: op, Args: make([]api.Expr, n)}
			programs = append(programs, api.Program{{Kind: api.DeControl, Body: []api.Stmt{{Kind: api.StDigest, Args: []api.Expr{arg}}}}})
		}
	}
	none := 0
	for _, p := range programs {
		_, want := types.Check(p)
		c, e := lower.Code(p)
		if e != want || e != api.OK && !same(c, api.Code{}) {
			t.Errorf("Code of %d declarations = %.2000s, %d, want %d", len(p), told(c), e, want)
		}
		if e != api.OK {
			none++
		}
	}
	if none < len(programs)-4 {
		t.Errorf("only %d of %d are no programs", none, len(programs))
	}
}

// TestNames: what is declared, fields, params and states may have names alike; each means its own.
func TestNames(t *testing.T) { // P11.1, P11.2
	const s = `action a(h 8,a 16,port 16){h.a=h;meta.a=a;meta.out=port;} action b(h 16,a 8){h.h=h;h.a=a+h.a;}
		header h{h 16;a 8;} header start{accept 8;} meta{a 16;h 8;}
		parser{h{take start;go accept;} start{take h;select h.a{8w1:h;8w2:accept;else reject;}}}
		control{a(h.a+8w1,h.h,16w9);meta.h=h.a;b(meta.a+16w1,meta.h);digest meta.a,meta.h,h.a,h.h,start.accept;} deparser{start;h;}`
	runs(t, s, "", nil, 3, "0102 01 77 88", "sent 77 0103 04 88 port 9: digest 16w102 8w2 8w4 16w103 8w77")
	runs(t, s, "", nil, 3, "0102 02 77", "sent 0103 06 77 port 9: digest 16w102 8w3 8w6 16w103 8w0")
	runs(t, s, "", nil, 3, "0102 03 77", "reject")
	runs(t, s, "", nil, 3, "0102 01", "short")
}

// shown is a pass as text.
func shown(p api.Pass) string {
	s := fmt.Sprintf("%s %x", []string{"none", "sent", "dropped", "reject", "short", "steps"}[p.End], p.Packet)
	if p.End == api.EndSent {
		s += fmt.Sprintf(" port %d", p.Port)
	}
	for flag, set := range map[string]bool{" again": p.Again, " round": p.Round} {
		if set {
			s += flag
		}
	}
	text := func(b api.Bits) string {
		s, _ := bits.Text(b)
		return s
	}
	for i, e := range p.Effects {
		s += []string{":", ";"}[min(i, 1)]
		switch e.Kind {
		case api.EfHit:
			s += fmt.Sprintf(" hit %s %d", e.Table, e.Entry)
		case api.EfDigest:
			s += " digest"
			for _, b := range e.Data {
				s += " " + text(b)
			}
		case api.EfClone:
			s += fmt.Sprintf(" clone %d", e.Group)
		case api.EfRandom:
			s += fmt.Sprintf(" random %d", e.Value.W)
		default:
			s += fmt.Sprintf(" %s %s %d %s", map[api.EffectKind]string{api.EfCount: "count", api.EfRead: "read", api.EfWrite: "write", api.EfMeter: "meter"}[e.Kind], e.Array, e.Cell, text(e.Value))
		}
	}
	return s
}

// worldOf is a program's world, before anything was done, with entries of one table.
func worldOf(p api.Program, table string, entries []api.Entry) api.World {
	m := &maker{Rand: dice(), p: p}
	w := m.world()
	w.Now, w.Random = 0, 1
	for i := range w.Tables {
		w.Tables[i].Entries = nil
		if w.Tables[i].Name == table {
			w.Tables[i].Entries = entries
		}
	}
	for _, a := range w.Arrays {
		for i := range a.Cells {
			a.Cells[i] = api.Bits{W: a.W, Lo: uint64(a.Burst)}
		}
		clear(a.Last)
	}
	return w
}

func bytesOf(s string) []byte {
	var b []byte
	fmt.Sscanf(strings.ReplaceAll(s, " ", ""), "%x", &b)
	return b
}

// squeezed is a pass's text without blanks between bytes.
func squeezed(s string) string { return strings.Join(strings.Fields(s), "") }

// runs asks what a pass comes to, by the tree and by code.
func runs(t *testing.T, s, table string, entries []api.Entry, port int, b, want string) {
	t.Helper()
	p, c := of(t, s)
	ran := sameRun(t, p, c, worldOf(p, table, entries), port, bytesOf(b))
	if got := shown(ran.pass); squeezed(got) != squeezed(want) {
		t.Errorf("%s of %s: %s, want %s", s, b, got, want)
	}
}

const chapter = "header h { a 8; b 8; } parser { start { take h; go accept; } } control { h.b = h.b + 8w1; meta.out = 16w7; } deparser { h; }"

func TestPasses(t *testing.T) { // P11.2
	const g = "header h{a 8;b 8;} header g{c 4;d 1;e 3;} meta{m 8;f 1;} register r 8 2; register u 1 2; counter k 2; meter y 2 0 1; deparser{g;h;} "
	const start = "parser{start{take h;go accept;}} "
	for _, c := range []struct{ s, b, want string }{
		{"", "0102", "sent 0102 port 0"}, {"deparser{}", "", "sent port 0"}, {"header h{a 8;} parser{start{take h;go accept;}}", "0102", "sent 02 port 0"},
		{chapter, "01 02 03", "sent 010303 port 7"}, {chapter, "01", "short"}, {chapter, "01 ff", "sent 0100 port 7"},
		// What a header that is not there has.
		{g + "control{h.a=8w1;digest h.a;}", "05", "sent 05 port 0: digest 8w0"}, {g + "control{make h;h.a=8w1;digest h.a;}", "05", "sent 010005 port 0: digest 8w1"},
		{g + start + "control{gone h;h.a=8w1;make h;digest h.a,h.b;}", "0506", "sent 0000 port 0: digest 8w0 8w0"}, {g + start + "control{make h;h.b=h.a;}", "0506", "sent 0505 port 0"},
		{g + start + "control{digest valid h,valid g;gone h;make g;digest valid h,valid g;}", "0506", "sent 00 port 0: digest 1w1 1w0; digest 1w0 1w1"},
		{g + start + "control{g.d=1w1;make g;g.e=3w5;gone g;make g;}", "0506", "sent 000506 port 0"},
		// If, with and without Else, in one another.
		{g + start + "control{if h.a==8w5{h.b=8w1;}else{h.b=8w2;}h.a=8w9;}", "0506", "sent 0901 port 0"}, {g + start + "control{if h.a!=8w5{h.b=8w1;}else{h.b=8w2;}h.a=8w9;}", "0506", "sent 0902 port 0"},
		{g + start + "control{if h.a<8w5{h.b=8w1;}}", "0506", "sent 0506 port 0"}, {g + start + "control{if h.a<=8w5{}else{h.b=8w1;}}", "0506", "sent 0506 port 0"}, {g + start + "control{if h.a<8w5{}else{h.b=8w1;}}", "0506", "sent 0501 port 0"}, {g + start + "control{if 1w1{}}", "0506", "sent 0506 port 0"},
		{g + start + "control{if 1w1{if 1w0{h.a=8w1;}else{if 1w1{h.a=8w2;}else{h.a=8w3;}h.b=8w4;}}else{h.a=8w5;h.b=8w6;}}", "0000", "sent 0204 port 0"},
		{g + start + "control{if h.a[0:0]{h.b=8w1;h.a=8w0;}else{h.a=8w1;}if h.a[0:0]{h.b=8w3;}}", "0500", "sent 0001 port 0"},
		// A field is what it was until it is set; what is asked ahead is not what it is behind.
		{g + start + "control{h.a=h.b;h.b=h.a;}", "0506", "sent 0606 port 0"}, {g + start + "control{meta.m=h.a;h.a=h.b;h.b=meta.m;}", "0506", "sent 0605 port 0"}, {g + start + "control{h.a=h.a;h.a=h.a-h.a+h.b;}", "0506", "sent 0606 port 0"},
		{g + start + "control{meta.port=meta.port+16w1;meta.out=meta.port;}", "0506", "sent 0506 port 4"},
		// Cells: told, and there whatever becomes of the field.
		{g + start + "control{count k[h.a];count k[1w1];count k[8w2];}", "0106", "sent 0106 port 0: count k 1; count k 1"},
		{g + start + "control{write r[1w1]=h.b;read h.a=r[h.a];}", "0106", "sent 0606 port 0: write r 1 8w6; read r 1 8w6"}, {g + start + "control{read h.a=r[8w2];write r[8w2]=8w1;}", "0106", "sent 0006 port 0"}, {g + start + "control{read h.a=r[128w10000000000000000];}", "0106", "sent 0006 port 0"},
		{g + "control{write r[1w0]=8w5;read h.a=r[1w0];digest h.a;read h.a=r[2w2];}", "", "sent port 0: write r 0 8w5; read r 0 8w5; digest 8w0"},
		{g + "control{meter meta.f=y[1w0];digest meta.f;meter meta.f=y[1w0];digest meta.f;meter g.d=y[1w1];digest g.d;meter g.d=y[1w1];}", "", "sent port 0: meter y 0 1w1; digest 1w1; meter y 0 1w0; digest 1w0; meter y 1 1w1; digest 1w0; meter y 1 1w0"},
		{g + "control{meter meta.f=y[1w0];meter meta.f=y[8w9];digest meta.f;make g;meter g.d=y[1w1];meter g.d=y[8w9];}", "", "sent 00 port 0: meter y 0 1w1; digest 1w0; meter y 1 1w1"},
		{g + "control{random h.a;random meta.f;digest h.a;random g.e;}", "", "sent port 0: random 8; random 1; digest 8w0; random 3"},
		// What a packet comes to.
		{g + start + "control{drop;meta.out=16w1;}", "0506", "dropped 0506"}, {g + start + "control{again;round;}", "0506", "sent 0506 port 0 again"}, {g + start + "control{round;}", "0506", "sent 0506 port 0 round"}, {g + start + "control{round;again;drop;clone 15;clone 0;}", "0506", "dropped 0506: clone 15; clone 0"},
		{g + start + "control{digest h.a,h.a,h.b;digest 128w1;}", "0506", "sent 0506 port 0: digest 8w5 8w5 8w6; digest 128w1"},
		// Numbers.
		{g + start + "control{digest h.a++h.b,h.a*h.b,h.a<<h.b,h.b>>1w1,~h.a,h.a&h.b,h.a|h.b,h.a^h.b,h.a-h.b;}", "0506", "sent 0506 port 0: digest 16w506 8w1e 8w40 8w3 8wfa 8w4 8w7 8w3 8wff"},
		{g + start + "control{digest h.a==h.b,h.a!=h.b,h.a<h.b,h.b<=h.a,1w1&&1w0,1w1||1w0,cast 4(h.a++h.b),cast 128(h.a),h.b[2:1],h.b[7:0];}", "0506", "sent 0506 port 0: digest 1w0 1w1 1w1 1w0 1w0 1w1 4w6 128w5 2w3 8w6"},
		{g + start + "control{digest hash crc16(h.a,h.b),hash crc32(72w313233343536373839),hash csum16(h.a,h.b),hash xor16(8w1,h.a++h.b,8w2);}", "0506", "sent 0506 port 0: digest 16w5283 32wcbf43926 16wfaf9 16w707"},
	} {
		runs(t, c.s, "", nil, 3, c.b, c.want)
	}
}

// TestParsers: where a pass begins, and where states lead.
func TestParsers(t *testing.T) { // P11.2
	const h = "header h{a 8;} header g{b 8;} deparser{h;g;} "
	loop := h + "parser{s{take g;select h.a-g.b{8w0:accept;8w1:start;8w80&8w80:s;else reject;}} start{take h;go s;}}"
	for _, c := range []struct{ s, b, want string }{
		{loop, "0505", "sent 0505 port 0"}, {loop, "0504 0606 77", "sent 060677 port 0"}, {loop, "0506 05 77", "sent 050577 port 0"}, {loop, "0502", "reject"}, {loop, "0506", "short"}, {loop, "05", "short"}, {loop, "", "short"},
		{h + "parser{start{go start;}}", "01", "steps"}, {h + "parser{start{select valid h{1w1:accept;else s;}} s{take h;take h;go start;}}", "0102", "sent 02 port 0"},
		{h + "parser{start{select 8w1{8w0&8w0:accept;else reject;}}}", "", "sent port 0"}, {h + "parser{start{select 8w1{8wff&8w1:accept;else reject;}}}", "", "sent port 0"}, {h + "parser{start{select 8w1{8w3:reject;8w2&8w2:reject;8w1:accept;8w1:reject;else reject;}}}", "", "sent port 0"},
		{h + "parser{start{select meta.port{16w3:accept;else reject;}}}", "", "sent port 0"}, {h + "parser{start{select meta.out{else reject;}}}", "", "reject"}, {h + "parser{start{go reject;}}", "01", "reject"},
		{h + "parser{a{take g;go accept;} start{take h;go b;} b{select hash xor16(h.a){16w0:a;else accept;}}}", "000102", "sent 000102 port 0"}, {h + "parser{a{take g;go accept;} start{take h;go b;} b{select hash xor16(h.a){16w0:a;else accept;}}}", "010203", "sent 010203 port 0"},
	} {
		runs(t, c.s, "", nil, 3, c.b, c.want)
	}
	// As many states as a pass goes through, and one more.
	for n, want := range map[int]string{255: "sent port 0", 256: "sent port 0", 257: "steps"} {
		s := "start{go s1;}"
		for i := 1; i < n; i++ {
			s += fmt.Sprintf("s%d{go s%d;}", i, i+1)
		}
		s = strings.Replace(s, fmt.Sprintf("go s%d;", n), "go accept;", 1)
		runs(t, "parser{"+s+"}", "", nil, 0, "", want)
	}
}

// TestTables: their keys are asked when they are applied, and the entry's action is done with its args.
func TestTables(t *testing.T) { // P11.2
	const s = `header h{a 8;b 8;} parser{start{take h;go accept;}} deparser{h;} action none(){} action set(p 8,q 16){h.b=p;meta.out=q;} action plus(q 8){if h.a<q{h.b=h.b+q;}else{drop;}}
		table t{key{h.a+8w1 exact;meta.port mask;} actions plus set; default set(8w63,16w2); size 3;} table u{key{} actions none; default none(); size 1;} control{h.a=h.a+8w1;apply t;apply u;}`
	eight := func(n uint64) api.Bits { return api.Bits{W: 8, Lo: n} }
	sixteen := func(n uint64) api.Bits { return api.Bits{W: 16, Lo: n} }
	entries := []api.Entry{
		{Matches: []api.Match{{Value: eight(7)}, {Value: sixteen(0), Mask: sixteen(0)}}, Priority: 1, Action: "plus", Args: []api.Bits{eight(9)}},
		{Matches: []api.Match{{Value: eight(7)}, {Value: sixteen(3), Mask: sixteen(0xffff)}}, Priority: 2, Action: "set", Args: []api.Bits{eight(0xee), sixteen(0x1234)}},
		{Matches: []api.Match{{Value: eight(11)}, {Value: sixteen(0), Mask: sixteen(0)}}, Priority: 1, Action: "plus", Args: []api.Bits{eight(9)}},
	}
	runs(t, s, "t", nil, 3, "0501", "sent 0663 port 2: hit t -1; hit u -1")
	runs(t, s, "t", entries, 3, "0501", "sent 06ee port 4660: hit t 1; hit u -1")
	runs(t, s, "t", entries, 4, "0501", "sent 060a port 0: hit t 0; hit u -1")
	runs(t, s, "t", entries, 4, "0901", "dropped 0a01: hit t 2; hit u -1")
	runs(t, s, "t", entries, 4, "0601", "sent 0763 port 2: hit t -1; hit u -1")
	// Applied in a branch, and not.
	const branch = "header h{a 8;} parser{start{take h;go accept;}} action f(p 8){digest p;} table t{key{h.a prefix;} actions f; default f(8w1); size 1;} table u{key{} actions f; default f(8w2); size 1;} control{if h.a[0:0]{apply u;}else{apply t;f(h.a);}f(8w3);}"
	runs(t, branch, "", nil, 0, "01", "sent port 0: hit u -1; digest 8w2; digest 8w3")
	runs(t, branch, "", nil, 0, "04", "sent port 0: hit t -1; digest 8w1; digest 8w4; digest 8w3")
}

// TestLongest: what is put together is longer than a packet may be.
func TestLongest(t *testing.T) { // P11.2
	const s = "header h{a 8;} parser{start{take h;go accept;}} header g{b 8;} control{make g;clone 1;} deparser{h;g;}"
	p, c := of(t, s)
	for n, want := range map[int]api.EndKind{api.MaxPacket - 1: api.EndSent, api.MaxPacket: api.EndDropped} {
		if ran := sameRun(t, p, c, worldOf(p, "", nil), 1, make([]byte, n)); ran.pass.End != want || len(ran.pass.Effects) != 1 {
			t.Errorf("%d bytes: %+v", n, ran.pass)
		}
	}
}

// spans are the pieces of memory that lists of v have, spare room too.
func spans(v reflect.Value, out *[][2]uintptr) {
	switch v.Kind() {
	case reflect.Slice:
		if size := uintptr(v.Cap()) * v.Type().Elem().Size(); size > 0 {
			*out = append(*out, [2]uintptr{v.Pointer(), v.Pointer() + size})
		}
		for i := range v.Len() {
			spans(v.Index(i), out)
		}
	case reflect.Struct:
		for i := range v.NumField() {
			spans(v.Field(i), out)
		}
	}
}

// apart: no two lists of these share memory.
func apart(l ...any) bool {
	var all [][2]uintptr
	for _, x := range l {
		spans(reflect.ValueOf(x), &all)
	}
	slices.SortFunc(all, func(a, b [2]uintptr) int { return slices.Compare(a[:], b[:]) })
	for i := 1; i < len(all); i++ {
		if all[i][0] < all[i-1][1] {
			return false
		}
	}
	return true
}

// filled lays something else into the spare room of all lists.
func filled(v reflect.Value) {
	switch v.Kind() {
	case reflect.Slice:
		for i := range v.Len() {
			filled(v.Index(i))
		}
		room := v.Slice(0, v.Cap())
		for i := v.Len(); i < v.Cap() && v.Len() > 0; i++ {
			room.Index(i).Set(v.Index(0))
		}
	case reflect.Struct:
		for i := range v.NumField() {
			filled(v.Field(i))
		}
	}
}

// roomOf is what v holds with the spare room of all lists as part of them.
func roomOf(v reflect.Value) any {
	var l []any
	switch v.Kind() {
	case reflect.Slice:
		room := v.Slice(0, v.Cap())
		for i := range room.Len() {
			// What lies in spare room is the first of the list once more, with lists that were asked already.
			if i < v.Len() {
				l = append(l, roomOf(v.Index(i)))
			} else {
				l = append(l, room.Index(i).Interface())
			}
		}
	case reflect.Struct:
		for i := range v.NumField() {
			l = append(l, roomOf(v.Field(i)))
		}
	default:
		return v.Interface()
	}
	return l
}

func TestMemory(t *testing.T) { // R4, R5
	r := dice()
	programs := []api.Program{nil}
	every, _ := of(t, every)
	programs = append(programs, every)
	for n := range 300 {
		programs = append(programs, made(r, n%40).p)
	}
	for _, p := range programs {
		want, e := lower.Code(p)
		if e == api.ErrLimit {
			continue
		}
		want = copied(want, 0)
		given := copied(p, 2)
		filled(reflect.ValueOf(&given).Elem())
		before := roomOf(reflect.ValueOf(given))
		first, _ := lower.Code(given)
		second, _ := lower.Code(given)
		if !same(first, want) || !same(second, want) {
			t.Fatalf("Code(%.4000s) = %+v and %+v, want %+v", told(p), first, second, want)
		}
		if !apart(given, first, second) {
			t.Fatalf("lists share memory: the code of %.4000s", told(p))
		}
		overwrite(reflect.ValueOf(&first).Elem())
		if !same(second, want) || !reflect.DeepEqual(roomOf(reflect.ValueOf(given)), before) {
			t.Fatalf("what was handed in, or another answer, is changed: %.4000s", told(p))
		}
		// What was handed in becomes something else: the answer is not.
		overwrite(reflect.ValueOf(&given).Elem())
		if !same(second, want) {
			t.Fatalf("an answer changes with what was handed in: %.4000s", told(p))
		}
	}
}

// overwrite makes all of v zero, lists and their spare room element by element.
func overwrite(v reflect.Value) {
	switch v.Kind() {
	case reflect.Slice:
		room := v.Slice(0, v.Cap())
		for i := range room.Len() {
			if i < v.Len() {
				overwrite(room.Index(i))
			}
			room.Index(i).SetZero()
		}
	case reflect.Struct:
		for i := range v.NumField() {
			overwrite(v.Field(i))
		}
	}
}

func TestMemoryOfTexts(t *testing.T) { // R4, R5
	for _, s := range []string{"", every, chapter} {
		p, c, _, _ := lower.Of(s)
		q, d, _, _ := lower.Of(s)
		if !apart(p, c, q, d) || !same(p, q) || !same(c, d) {
			t.Errorf("Of(%q): lists share memory, or are unlike", s)
		}
		wantP, wantC := copied(q, 0), copied(d, 0)
		overwrite(reflect.ValueOf(&p).Elem())
		overwrite(reflect.ValueOf(&c).Elem())
		if !same(q, wantP) || !same(d, wantC) {
			t.Errorf("Of(%q): an answer changes with another", s)
		}
	}
}

func TestManyAtOnce(t *testing.T) { // R5
	p, want := of(t, every)
	var group sync.WaitGroup
	for range 16 {
		group.Go(func() {
			for range 20 {
				if c, e := lower.Code(p); e != api.OK || !same(c, want) {
					t.Errorf("Code = %+v, %d", c, e)
				}
			}
		})
	}
	group.Wait()
}

func BenchmarkOf(b *testing.B) {
	for b.Loop() {
		lower.Of(every)
	}
}
