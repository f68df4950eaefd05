package source_test

import (
	"encoding/hex"
	"fmt"
	"slices"
	"strings"
	"testing"

	"pointsman/api"
	"pointsman/bits"
	"pointsman/source"
)

func text(b api.Bits) string {
	s, _ := bits.Text(b)
	return s
}

// shown is a pass as text.
func shown(p api.Pass) string {
	s := fmt.Sprintf("%s %x", []string{"none", "sent", "dropped", "reject", "short", "steps"}[p.End], p.Packet)
	if p.End == api.EndSent || p.Port != 0 {
		s += fmt.Sprintf(" port %d", p.Port)
	}
	if p.Again {
		s += " again"
	}
	if p.Round {
		s += " round"
	}
	for i, e := range p.Effects {
		s += []string{":", ";"}[min(i, 1)]
		switch e.Kind {
		case api.EfHit:
			s += fmt.Sprintf(" hit %s %d", e.Table, e.Entry)
		case api.EfDigest:
			s += " digest"
			for _, b := range e.Data {
				s += " " + text(b)
			}
		case api.EfClone:
			s += fmt.Sprintf(" clone %d", e.Group)
		case api.EfRandom:
			s += " random " + text(e.Value)
		case api.EfCount:
			s += fmt.Sprintf(" count %s %d", e.Array, e.Cell)
		default:
			s += fmt.Sprintf(" %s %s %d %s", map[api.EffectKind]string{api.EfRead: "read", api.EfWrite: "write", api.EfMeter: "meter"}[e.Kind], e.Array, e.Cell, text(e.Value))
		}
	}
	return s
}

func squeezed(s string) string { return strings.Join(strings.Fields(s), "") }

// in asks what a pass of a packet comes to, and that the model says so, too; it answers the world behind it.
func in(t *testing.T, s string, w api.World, port int, b, want string) api.World {
	t.Helper()
	raw, err := hex.DecodeString(squeezed(b))
	if err != nil {
		t.Fatal(err)
	}
	ran := sameRun(t, parsed(t, s), w, port, raw)
	if got := shown(ran.pass); squeezed(got) != squeezed(want) {
		t.Errorf("%s of %s: %s, want %s", s, b, got, want)
	}
	return ran.w
}

// runs is in the world that a program has before anything was done.
func runs(t *testing.T, s string, port int, b, want string) api.World {
	t.Helper()
	w, e := source.New(parsed(t, s))
	if e != api.OK {
		t.Fatalf("New(%s) = %d", s, e)
	}
	return in(t, s, w, port, b, want)
}

const parts = "header h{a 8;b 8;} header g{c 4;d 1;e 3;} meta{m 8;f 1;} register r 8 2; register u 1 2; counter k 2; meter y 2 0 1; deparser{g;h;} "
const start = "parser{start{take h;go accept;}} "

func TestStatements(t *testing.T) { // P15.2
	for _, c := range []struct{ s, b, want string }{
		// StSet.
		{"control{h.a=8w1;digest h.a;}", "05", "sent 05 port 0: digest 8w0"}, {"control{make h;h.a=8w1;digest h.a;}", "05", "sent 010005 port 0: digest 8w1"}, {start + "control{h.a=h.b;h.b=h.a;}", "0506", "sent 0606 port 0"},
		{start + "control{meta.m=h.a;h.a=h.b;h.b=meta.m;}", "0506", "sent 0605 port 0"}, {start + "control{meta.port=meta.port+16w1;meta.out=meta.port;}", "0506", "sent 0506 port 4"}, {start + "control{meta.out=16wffff;}", "0506", "sent 0506 port 65535"},
		// StIf.
		{start + "control{if h.a==8w5{h.b=8w1;}else{h.b=8w2;}h.a=8w9;}", "0506", "sent 0901 port 0"}, {start + "control{if h.a!=8w5{h.b=8w1;}else{h.b=8w2;}h.a=8w9;}", "0506", "sent 0902 port 0"}, {start + "control{if h.a<8w5{h.b=8w1;}}", "0506", "sent 0506 port 0"},
		{start + "control{if 1w1{if 1w0{h.a=8w1;}else{if 1w1{h.a=8w2;}else{h.a=8w3;}h.b=8w4;}}else{h.a=8w5;h.b=8w6;}}", "0000", "sent 0204 port 0"},
		// StCall.
		{start + "action f(p 8,q 8){h.a=q;h.b=p;} control{f(h.a,h.b);}", "0506", "sent 0605 port 0"}, {start + "action f(p 8){h.a=p+8w1;h.b=p;} control{f(h.a);f(h.a);}", "0506", "sent 0706 port 0"}, {start + "action f(){drop;} control{if 1w0{f();}}", "0506", "sent 0506 port 0"},
		{"action f(p 8){digest p;} action e(q 8,p 16){digest p,q;} control{e(8w1,16w2);f(8w3);}", "", "sent port 0: digest 16w2 8w1; digest 8w3"},
		// StMake, StGone.
		{start + "control{gone h;h.a=8w1;make h;digest h.a,h.b;}", "0506", "sent 0000 port 0: digest 8w0 8w0"}, {start + "control{make h;h.b=h.a;}", "0506", "sent 0505 port 0"}, {start + "control{gone h;digest h.a,h.b;}", "050607", "sent 07 port 0: digest 8w0 8w0"},
		{start + "control{digest valid h,valid g;gone h;make g;digest valid h,valid g;}", "0506", "sent 00 port 0: digest 1w1 1w0; digest 1w0 1w1"}, {start + "control{g.d=1w1;make g;g.e=3w5;gone g;make g;}", "0506", "sent 000506 port 0"},
		// StCount.
		{start + "control{count k[h.a];count k[1w1];count k[8w2];count k[128w10000000000000001];}", "0106", "sent 0106 port 0: count k 1; count k 1"},
		// StRead, StWrite.
		{start + "control{write r[1w1]=h.b;read h.a=r[h.a];}", "0106", "sent 0606 port 0: write r 1 8w6; read r 1 8w6"}, {start + "control{read h.a=r[8w2];write r[8w2]=8w1;}", "0106", "sent 0006 port 0"}, {start + "control{read h.a=r[128w10000000000000000];}", "0106", "sent 0006 port 0"},
		{"control{write r[1w0]=8w5;read h.a=r[1w0];digest h.a;read h.a=r[2w2];}", "", "sent port 0: write r 0 8w5; read r 0 8w5; digest 8w0"}, {"control{write r[1w0]=8w5;write r[1w0]=8w6;read meta.m=r[1w0];write u[1w1]=meta.m[1:1];}", "", "sent port 0: write r 0 8w5; write r 0 8w6; read r 0 8w6; write u 1 1w1"},
		{"control{write r[64w8000000000000000]=8w5;write r[128w10000000000000000]=8w5;read meta.m=r[1w0];}", "", "sent port 0: read r 0 8w0"},
		// StMeter.
		{"control{meter meta.f=y[1w0];digest meta.f;meter meta.f=y[1w0];digest meta.f;meter g.d=y[1w1];digest g.d;meter g.d=y[1w1];}", "", "sent port 0: meter y 0 1w1; digest 1w1; meter y 0 1w0; digest 1w0; meter y 1 1w1; digest 1w0; meter y 1 1w0"},
		{"control{meter meta.f=y[1w0];meter meta.f=y[8w9];digest meta.f;make g;meter g.d=y[1w1];meter g.d=y[8w9];}", "", "sent 00 port 0: meter y 0 1w1; digest 1w0; meter y 1 1w1"}, {"control{meter meta.f=y[2w2];}", "", "sent port 0"},
		// StRandom.
		{"control{random h.a;random meta.f;digest h.a,meta.f;make g;random g.e;digest g.e;}", "", "sent 07 port 0: random 8w1b; random 1w1; digest 8w0 1w1; random 3w7; digest 3w7"},
		// StDrop, StAgain, StRound.
		{start + "control{drop;meta.out=16w1;}", "0506", "dropped 0506"}, {start + "control{again;round;}", "0506", "sent 0506 port 0 again"}, {start + "control{round;again;}", "0506", "sent 0506 port 0 again"}, {start + "control{round;}", "0506", "sent 0506 port 0 round"}, {start + "control{again;}", "0506", "sent 0506 port 0 again"},
		{start + "control{round;again;drop;clone 15;clone 0;}", "0506", "dropped 0506: clone 15; clone 0"}, {start + "control{drop;h.a=8w1;make g;again;}", "0506", "dropped 000106"}, {start + "control{round;meta.out=16w9;}", "0506", "sent 0506 port 9 round"},
		// StDigest, StClone.
		{start + "control{digest h.a,h.a,h.b;digest 128w1;}", "0506", "sent 0506 port 0: digest 8w5 8w5 8w6; digest 128w1"}, {"control{clone 3;clone 3;}", "", "sent port 0: clone 3; clone 3"},
		// Numbers.
		{start + "control{digest h.a++h.b,h.a*h.b,h.a<<h.b,h.b>>1w1,~h.a,h.a&h.b,h.a|h.b,h.a^h.b,h.a-h.b,h.a+h.b;}", "0506", "sent 0506 port 0: digest 16w506 8w1e 8w40 8w3 8wfa 8w4 8w7 8w3 8wff 8wb"},
		{start + "control{digest h.a==h.b,h.a!=h.b,h.a<h.b,h.b<=h.a,1w1&&1w0,1w1||1w0,cast 4(h.a++h.b),cast 128(h.a),h.b[2:1],h.b[7:0];}", "0506", "sent 0506 port 0: digest 1w0 1w1 1w1 1w0 1w0 1w1 4w6 128w5 2w3 8w6"},
		{start + "control{digest hash crc16(h.a,h.b),hash crc32(72w313233343536373839),hash csum16(h.a,h.b),hash xor16(8w1,h.a++h.b,8w2),hash xor16(1w1);}", "0506", "sent 0506 port 0: digest 16w5283 32wcbf43926 16wfaf9 16w707 16w8000"},
	} {
		runs(t, parts+c.s, 3, c.b, c.want)
	}
}

// TestCells: what is behind a pass in the world, and what the next one finds there.
func TestCells(t *testing.T) { // P15.2, P15.3
	const s = parts + "control{count k[meta.port];read meta.m=r[1w1];write r[1w1]=meta.m+8wff;meter meta.f=y[1w1];random meta.m;drop;}"
	w := runs(t, s, 1, "", "dropped: count k 1; read r 1 8w0; write r 1 8wff; meter y 1 1w1; random 8w1b")
	w.Now = 9
	w = in(t, s, w, 0, "", "dropped: count k 0; read r 1 8wff; write r 1 8wfe; meter y 1 1w0; random 8wc5")
	w = in(t, s, w, 1, "", "dropped: count k 1; read r 1 8wfe; write r 1 8wfd; meter y 1 1w0; random 8w7f")
	want, _ := source.New(parsed(t, s))
	want.Now, want.Random = 9, w.Random
	want.Arrays[0].Cells[1], want.Arrays[2].Cells = number(8, 0xfd), []api.Bits{number(64, 1), number(64, 2)}
	want.Arrays[3].Cells[1], want.Arrays[3].Last[1] = number(64, 0), 9
	if !same(w, want) {
		t.Errorf("the world behind three passes: %+v, want %+v", w, want)
	}
	// What a pass that ended in the parser leaves, is what there was.
	if got := in(t, s+start, w, 1, "01", "short"); !same(got, w) {
		t.Errorf("the world behind none: %+v, want %+v", got, w)
	}
	// A counter goes round.
	w.Arrays[2].Cells[1].Lo = ^uint64(0)
	if got := in(t, parts+"control{count k[1w1];}", w, 1, "", "sent port 0: count k 1"); got.Arrays[2].Cells[1] != number(64, 0) {
		t.Errorf("a counter that goes round: %+v", got.Arrays[2])
	}
}

// TestTicks: a meter has tokens for the ticks that went by.
func TestTicks(t *testing.T) { // P15.2
	const s = "header h{f 1;g 7;} meter y 1 2 3; control{make h;meter h.f=y[1w0];} deparser{h;}"
	w, _ := source.New(parsed(t, s))
	for i, want := range []string{"80", "80", "80", "00"} {
		got := in(t, s, w, 0, "", "sent "+want+" port 0: meter y 0 1w"+[]string{"1", "1", "1", "0"}[i])
		w = got
	}
	w.Now++
	for i, want := range []string{"80", "80", "00"} {
		w = in(t, s, w, 0, "", "sent "+want+" port 0: meter y 0 1w"+[]string{"1", "1", "0"}[i])
	}
	w.Now = 1 << 62
	if w = in1(t, s, w); w.Arrays[0].Cells[0] != number(64, 2) || w.Arrays[0].Last[0] != 1<<62 {
		t.Errorf("far ahead: %+v", w.Arrays)
	}
	// Behind its own tick a meter has what it has.
	w.Now = 5
	if w = in1(t, s, w); w.Arrays[0].Cells[0] != number(64, 1) || w.Arrays[0].Last[0] != 1<<62 {
		t.Errorf("back: %+v", w.Arrays)
	}
}

// in1 is the world behind a pass of no bytes.
func in1(t *testing.T, s string, w api.World) api.World {
	t.Helper()
	got := run(parsed(t, s), w, 0, nil)
	if got.E != api.OK {
		t.Fatalf("Run(%s) = %d", s, got.E)
	}
	return got.World
}

func TestParsers(t *testing.T) { // P15.2
	const h = "header h{a 8;} header g{b 8;} deparser{h;g;} "
	loop := h + "parser{s{take g;select h.a-g.b{8w0:accept;8w1:start;8w80&8w80:s;else reject;}} start{take h;go s;}}"
	for _, c := range []struct{ s, b, want string }{
		{"", "", "sent port 0"}, {"", "0102", "sent 0102 port 0"}, {h, "0102", "sent 0102 port 0"}, {"deparser{}", "01", "sent 01 port 0"},
		{loop, "0505", "sent 0505 port 0"}, {loop, "0504 0606 77", "sent 060677 port 0"}, {loop, "0506 05 77", "sent 050577 port 0"}, {loop, "0502", "reject"}, {loop, "0506", "short"}, {loop, "05", "short"}, {loop, "", "short"},
		{h + "parser{start{go start;}}", "01", "steps"}, {h + "parser{start{take h;go start;}}", "010203", "short"}, {h + "parser{start{select valid h{1w1:accept;else s;}} s{take h;take h;go start;}}", "0102", "sent 02 port 0"},
		{h + "parser{start{select 8w1{8w0&8w0:accept;else reject;}}}", "", "sent port 0"}, {h + "parser{start{select 8w1{8wff&8w1:accept;else reject;}}}", "", "sent port 0"}, {h + "parser{start{select 8w1{8w3:reject;8w2&8w2:reject;8w1:accept;8w1:reject;else reject;}}}", "", "sent port 0"},
		{h + "parser{start{select 8w1{8w1:reject;8w1:accept;else accept;}}}", "", "reject"}, {h + "parser{start{select 128w80000000000000000000000000000000{128w0&128w7fffffffffffffffffffffffffffffff:accept;else reject;}}}", "", "sent port 0"}, {h + "parser{start{select 128w10000000000000000{128w0&128w10000000000000000:accept;else reject;}}}", "", "reject"},
		{h + "parser{start{select meta.port{16w3:accept;else reject;}}}", "", "sent port 0"}, {h + "parser{start{select meta.out{else reject;}}}", "", "reject"}, {h + "parser{start{go reject;}}", "01", "reject"}, {h + "parser{start{take h;go reject;}} control{drop;clone 1;}", "01", "reject"},
		{h + "parser{a{take g;go accept;} start{take h;go b;} b{select hash xor16(h.a){16w0:a;else accept;}}}", "000102", "sent 000102 port 0"}, {h + "parser{a{take g;go accept;} start{take h;go b;} b{select hash xor16(h.a){16w0:a;else accept;}}}", "010203", "sent 010203 port 0"},
		// What ended in the parser did nothing; a header of which only a part is left is not taken.
		{"counter k 1;header h{a 8;b 16;} parser{start{take h;go accept;}} control{count k[1w0];}", "0102", "short"}, {"header h{a 4;b 128;c 4;} parser{start{take h;go accept;}} deparser{h;}", strings.Repeat("a5", 17) + "77", "sent " + strings.Repeat("a5", 17) + "77 port 0"}, {"header h{a 4;b 128;c 4;} parser{start{take h;go accept;}}", strings.Repeat("a5", 16), "short"},
	} {
		runs(t, c.s, 3, c.b, c.want)
	}
}

// TestSteps: as many states as a pass goes through, and one more, wherever they lead.
func TestSteps(t *testing.T) { // P15.2
	for _, end := range []struct{ to, want string }{{"accept", "sent port 0"}, {"reject", "reject"}} {
		for n, want := range map[int]string{1: end.want, 255: end.want, 256: end.want, 257: "steps", 300: "steps"} {
			s := ""
			for i := 1; i < n; i++ {
				s += fmt.Sprintf("s%d{go s%d;}", i, i+1)
			}
			s = strings.Replace("start{go s1;}"+s, fmt.Sprintf("go s%d;", n), "go "+end.to+";", 1)
			runs(t, "parser{"+s+"}", 0, "", want)
		}
	}
	// A state that is gone through again and again counts again and again; what it takes may be too little at the last one.
	const h = "header h{a 8;} deparser{h;} parser{start{take h;select h.a{8w1:accept;else start;}}}"
	for n, want := range map[int]string{255: "sent 01 port 0", 256: "sent 01 port 0", 257: "steps"} {
		runs(t, h, 0, strings.Repeat("00", n-1)+"01", want)
	}
	runs(t, h, 0, strings.Repeat("00", 255), "short")
	runs(t, h, 0, strings.Repeat("00", 256), "steps")
}

// TestTables: their keys are asked when they are applied, and the entry's action is done with its args.
func TestTables(t *testing.T) { // P15.2
	const s = `header h{a 8;b 8;} parser{start{take h;go accept;}} deparser{h;} action none(){} action set(p 8,q 16){h.b=p;meta.out=q;} action plus(q 8){if h.a<q{h.b=h.b+q;}else{drop;}}
		table t{key{h.a+8w1 exact;meta.port mask;} actions plus set; default set(8w63,16w2); size 3;} table u{key{} actions none set; default none(); size 1;} control{h.a=h.a+8w1;apply t;apply u;}`
	w, _ := source.New(parsed(t, s))
	in(t, s, w, 3, "0501", "sent 0663 port 2: hit t -1; hit u -1")
	w.Tables[0].Entries = []api.Entry{
		{Matches: []api.Match{{Value: number(8, 7)}, {Value: number(16, 0), Mask: number(16, 0)}}, Priority: 1, Action: "plus", Args: []api.Bits{number(8, 9)}},
		{Matches: []api.Match{{Value: number(8, 7)}, {Value: number(16, 3), Mask: number(16, 0xffff)}}, Priority: 2, Action: "set", Args: []api.Bits{number(8, 0xee), number(16, 0x1234)}},
		{Matches: []api.Match{{Value: number(8, 11)}, {Value: number(16, 0), Mask: number(16, 0)}}, Priority: 1, Action: "plus", Args: []api.Bits{number(8, 9)}},
	}
	in(t, s, w, 3, "0501", "sent 06ee port 4660: hit t 1; hit u -1")
	in(t, s, w, 4, "0501", "sent 060a port 0: hit t 0; hit u -1")
	in(t, s, w, 4, "0901", "dropped 0a01: hit t 2; hit u -1")
	in(t, s, w, 4, "0601", "sent 0763 port 2: hit t -1; hit u -1")
	// The world's default counts, not the program's; a table without keys has an entry that always matches.
	w.Tables[0].Default, w.Tables[0].Args = "plus", []api.Bits{number(8, 0x20)}
	in(t, s, w, 4, "0601", "sent 0721 port 0: hit t -1; hit u -1")
	w.Tables[1].Entries = []api.Entry{{Action: "set", Args: []api.Bits{number(8, 1), number(16, 2)}}}
	in(t, s, w, 4, "0601", "sent 0701 port 2: hit t -1; hit u 0")
	// Of prefixes the longest one counts.
	const routes = "header h{a 8;} parser{start{take h;go accept;}} action f(p 8){digest p;} table t{key{h.a prefix;} actions f; default f(8w1); size 3;} control{apply t;}"
	w, _ = source.New(parsed(t, routes))
	for i, n := range []int{0, 2, 1} {
		w.Tables[0].Entries = append(w.Tables[0].Entries, api.Entry{Matches: []api.Match{{Value: number(8, []uint64{0, 0xc0, 0x80}[i]), Len: n}}, Action: "f", Args: []api.Bits{number(8, uint64(n))}})
	}
	for b, want := range map[string]string{"01": "hit t 0; digest 8w0", "ff": "hit t 1; digest 8w2", "81": "hit t 2; digest 8w1"} {
		in(t, routes, w, 0, b, "sent port 0:"+want)
	}
	// Applied in a branch, and not; params of one action are none of another's.
	const branch = "header h{a 8;} parser{start{take h;go accept;}} action f(p 8){digest p;} table t{key{h.a prefix;} actions f; default f(8w1); size 1;} table u{key{} actions f; default f(8w2); size 1;} control{if h.a[0:0]{apply u;}else{apply t;f(h.a);}f(8w3);}"
	runs(t, branch, 0, "01", "sent port 0: hit u -1; digest 8w2; digest 8w3")
	runs(t, branch, 0, "04", "sent port 0: hit t -1; digest 8w1; digest 8w4; digest 8w3")
}

// TestNames: what is declared, fields, params and states may have names alike; each means its own.
func TestNames(t *testing.T) { // P15.2
	const s = `action a(h 8,a 16,port 16){h.a=h;meta.a=a;meta.out=port;} action b(h 16,a 8){h.h=h;h.a=a+h.a;}
		header h{h 16;a 8;} header start{accept 8;} meta{a 16;h 8;}
		parser{h{take start;go accept;} start{take h;select h.a{8w1:h;8w2:accept;else reject;}}}
		control{a(h.a+8w1,h.h,16w9);meta.h=h.a;b(meta.a+16w1,meta.h);digest meta.a,meta.h,h.a,h.h,start.accept;} deparser{start;h;}`
	runs(t, s, 3, "0102 01 77 88", "sent 77 0103 04 88 port 9: digest 16w102 8w2 8w4 16w103 8w77")
	runs(t, s, 3, "0102 02 77", "sent 0103 06 77 port 9: digest 16w102 8w3 8w6 16w103 8w0")
	runs(t, s, 3, "0102 03 77", "reject")
	runs(t, s, 3, "0102 01", "short")
}

// TestPutTogether: the headers that are there in the deparser's order, and the rest; how long that may be.
func TestPutTogether(t *testing.T) { // P15.2, P15.3
	const two = "header h{a 8;} header g{b 8;} header i{c 16;} parser{start{take h;take g;go accept;}} "
	for _, c := range []struct{ s, want string }{
		{two, "sent 0304 port 0"}, {two + "deparser{}", "sent 0304 port 0"}, {two + "deparser{h;g;}", "sent 01020304 port 0"}, {two + "deparser{g;i;h;}", "sent 02010304 port 0"}, {two + "deparser{g;}", "sent 020304 port 0"},
		{two + "control{make i;i.c=16wabcd;gone g;} deparser{i;g;h;}", "sent abcd010304 port 0"}, {two + "control{gone g;gone h;} deparser{g;h;}", "sent 0304 port 0"},
	} {
		runs(t, c.s, 0, "01020304", c.want)
	}
	const longer = "header h{a 8;} parser{start{take h;go accept;}} header g{b 8;} control{make g;clone 1;meta.out=16w5;again;round;} deparser{h;g;}"
	for n, want := range map[int]api.EndKind{api.MaxPacket - 1: api.EndSent, api.MaxPacket: api.EndDropped} {
		for _, drop := range []string{"", "drop;"} {
			p := parsed(t, strings.Replace(longer, "make g;", "make g;"+drop, 1))
			w, _ := source.New(p)
			ran := sameRun(t, p, w, 1, make([]byte, n))
			pass := api.Pass{End: want, Effects: []api.Effect{{Kind: api.EfClone, Group: 1}}}
			if n < api.MaxPacket {
				pass.Packet = make([]byte, n+1)
			}
			if drop != "" {
				pass.End = api.EndDropped
			} else if want == api.EndSent {
				pass.Port, pass.Again = 5, true
			}
			if !same(ran.pass, pass) {
				t.Errorf("%d bytes: %.1000s", n, told(ran.pass))
			}
		}
	}
}

// TestWithoutDeparser: what the parser did not take is sent on, whatever is done to headers.
func TestWithoutDeparser(t *testing.T) { // P15.3
	r := dice(9)
	sent := 0
	for n := range 400 {
		m := made(r, n%30)
		m.p = slices.DeleteFunc(m.p, func(d api.Decl) bool { return d.Kind == api.DeDeparser })
		b := m.bytes()
		got := run(m.p, m.world(), 1, b)
		if got.E != api.OK || got.Pass.End != api.EndSent && got.Pass.End != api.EndDropped {
			continue
		}
		sent++
		left := modelRun(m.p, m.world(), 1, b).pass.Packet
		if !strings.HasSuffix(string(b), string(got.Pass.Packet)) || string(left) != string(got.Pass.Packet) {
			t.Fatalf("%.4000s of %x: %x", told(m.p), b, got.Pass.Packet)
		}
	}
	if sent < 100 {
		t.Errorf("only %d packets were sent", sent)
	}
}
