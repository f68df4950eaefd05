package exec_test

import (
	"encoding/hex"
	"fmt"
	"slices"
	"strings"
	"testing"

	"pointsman/api"
	"pointsman/bits"
	"pointsman/exec"
	"pointsman/source"
)

func number(w int, lo uint64) api.Bits { return api.Bits{W: w, Lo: lo} }

func text(b api.Bits) string {
	s, _ := bits.Text(b)
	return s
}

// shown is a pass as text.
func shown(p api.Pass) string {
	s := fmt.Sprintf("%s %x", []string{"none", "sent", "dropped", "reject", "short", "steps"}[p.End], p.Packet)
	if p.End == api.EndSent || p.Port != 0 {
		s += fmt.Sprintf(" port %d", p.Port)
	}
	if p.Again {
		s += " again"
	}
	if p.Round {
		s += " round"
	}
	for i, e := range p.Effects {
		s += []string{":", ";"}[min(i, 1)]
		switch e.Kind {
		case api.EfHit:
			s += fmt.Sprintf(" hit %s %d", e.Table, e.Entry)
		case api.EfDigest:
			s += " digest"
			for _, b := range e.Data {
				s += " " + text(b)
			}
		case api.EfClone:
			s += fmt.Sprintf(" clone %d", e.Group)
		case api.EfRandom:
			s += " random " + text(e.Value)
		case api.EfCount:
			s += fmt.Sprintf(" count %s %d", e.Array, e.Cell)
		default:
			s += fmt.Sprintf(" %s %s %d %s", map[api.EffectKind]string{api.EfRead: "read", api.EfWrite: "write", api.EfMeter: "meter"}[e.Kind], e.Array, e.Cell, text(e.Value))
		}
	}
	return s
}

// look is what a pass looked at as text.
func look(s exec.Seen) string {
	out := fmt.Sprintf("%x %d", s.Mask, s.Least)
	if s.Port {
		out += " port"
	}
	if s.Fixed {
		out += " fixed"
	}
	return out
}

func squeezed(s string) string { return strings.Join(strings.Fields(s), "") }

// in asks what a pass of a packet comes to and what it looked at, that the pass by the tree says so, too, and that other packets that look the same go the same way. It answers the world behind it. What is not asked for is empty.
func in(t *testing.T, s string, w api.World, port int, b, want, seen string) api.World {
	t.Helper()
	raw, err := hex.DecodeString(squeezed(b))
	if err != nil {
		t.Fatal(err)
	}
	p, c := of(t, s)
	h := handed{p, c, w, port, raw}
	got := sameRun(t, h)
	if is := shown(got.Pass); want != "" && squeezed(is) != squeezed(want) {
		t.Errorf("%s of %s: %s, want %s", s, b, is, want)
	}
	if is := look(got.Seen); seen != "" && squeezed(is) != squeezed(seen) {
		t.Errorf("%s of %s: looked at %s, want %s", s, b, is, seen)
	}
	lookAlike(t, dice(uint64(len(s))), h, got, 20)
	return got.World
}

// runs is in the world that a program has before anything was done.
func runs(t *testing.T, s string, port int, b, want, seen string) api.World {
	t.Helper()
	p, _ := of(t, s)
	w, _ := source.New(p)
	return in(t, s, w, port, b, want, seen)
}

const parts = "header h{a 8;b 8;} header g{c 4;d 1;e 3;} meta{m 8;f 1;} register r 8 2; register u 1 2; counter k 2; meter y 2 0 1; deparser{g;h;} "
const start = "parser{start{take h;go accept;}} "

func TestStatements(t *testing.T) { // P16.1, P16.2
	for _, c := range []struct{ s, b, want, seen string }{
		// InMove.
		{"control{h.a=8w1;digest h.a;}", "05", "sent 05 port 0: digest 8w0", "00 0"}, {"control{make h;h.a=8w1;digest h.a;}", "05", "sent 010005 port 0: digest 8w1", "00 0"}, {start + "control{h.a=h.b;h.b=h.a;}", "0506", "sent 0606 port 0", "0000 16 fixed"},
		{start + "control{meta.m=h.a;h.a=h.b;h.b=meta.m;}", "0506", "sent 0605 port 0", "0000 16 fixed"}, {start + "control{meta.port=meta.port+16w1;meta.out=meta.port;}", "0506", "sent 0506 port 4", "0000 16 fixed"}, {start + "control{meta.out=16wffff;}", "0506", "sent 0506 port 65535", "0000 16 fixed"},
		// InUnless, InJump.
		{start + "control{if h.a==8w5{h.b=8w1;}else{h.b=8w2;}h.a=8w9;}", "0506", "sent 0901 port 0", "ff00 16 fixed"}, {start + "control{if h.a!=8w5{h.b=8w1;}else{h.b=8w2;}h.a=8w9;}", "0506", "sent 0902 port 0", "ff00 16 fixed"}, {start + "control{if h.a<8w5{h.b=8w1;}}", "0506", "sent 0506 port 0", "ff00 16 fixed"},
		{start + "control{if 1w1{if 1w0{h.a=8w1;}else{if 1w1{h.a=8w2;}else{h.a=8w3;}h.b=8w4;}}else{h.a=8w5;h.b=8w6;}}", "0000", "sent 0204 port 0", "0000 16 fixed"},
		// InCall.
		{start + "action f(p 8,q 8){h.a=q;h.b=p;} control{f(h.a,h.b);}", "0506", "sent 0605 port 0", "0000 16 fixed"}, {start + "action f(p 8){h.a=p+8w1;h.b=p;} control{f(h.a);f(h.a);}", "0506", "sent 0706 port 0", "0000 16 fixed"}, {start + "action f(){drop;} control{if 1w0{f();}}", "0506", "sent 0506 port 0", "0000 16 fixed"},
		{"action f(p 8){digest p;} action e(q 8,p 16){digest p,q;} control{e(8w1,16w2);f(8w3);}", "", "sent port 0: digest 16w2 8w1; digest 8w3", "0"},
		// InMake, InGone.
		{start + "control{gone h;h.a=8w1;make h;digest h.a,h.b;}", "0506", "sent 0000 port 0: digest 8w0 8w0", "0000 16"}, {start + "control{make h;h.b=h.a;}", "0506", "sent 0505 port 0", "0000 16 fixed"}, {start + "control{gone h;clone 1;}", "050607", "sent 07 port 0: clone 1", "000000 16 fixed"},
		{start + "control{digest valid h,valid g;gone h;make g;digest valid h,valid g;}", "0506", "sent 00 port 0: digest 1w1 1w0; digest 1w0 1w1", "0000 16"}, {start + "control{g.d=1w1;make g;g.e=3w5;gone g;make g;}", "0506", "sent 000506 port 0", "0000 16 fixed"},
		// InCount: whether there is such a cell makes no difference to the way.
		{start + "control{count k[h.a];count k[1w1];count k[8w2];count k[128w10000000000000001];}", "0106", "sent 0106 port 0: count k 1; count k 1", "0000 16 fixed"},
		// InRead, InWrite.
		{start + "control{write r[1w1]=h.b;read h.a=r[h.a];}", "0106", "sent 0606 port 0: write r 1 8w6; read r 1 8w6", ""}, {start + "control{read h.a=r[8w2];write r[8w2]=8w1;}", "0106", "sent 0006 port 0", "0000 16 fixed"}, {start + "control{read h.a=r[128w10000000000000000];}", "0106", "sent 0006 port 0", "0000 16 fixed"},
		{"control{write r[1w0]=8w5;read h.a=r[1w0];digest h.a;read h.a=r[2w2];}", "", "sent port 0: write r 0 8w5; read r 0 8w5; digest 8w0", "0"}, {"control{write r[1w0]=8w5;write r[1w0]=8w6;read meta.m=r[1w0];write u[1w1]=meta.m[1:1];}", "", "sent port 0: write r 0 8w5; write r 0 8w6; read r 0 8w6; write u 1 1w1", "0"},
		{"control{write r[64w8000000000000000]=8w5;write r[128w10000000000000000]=8w5;}", "", "sent port 0", "0 fixed"}, {"control{write u[1w1]=1w1;}", "", "sent port 0: write u 1 1w1", "0"}, {"control{read meta.m=r[1w1];}", "", "sent port 0: read r 1 8w0", "0"},
		{"action f(i 8){read meta.m=r[i];digest meta.m;} control{write r[1w1]=8w7;f(8w1);f(8w2);}", "", "sent port 0: write r 1 8w7; read r 1 8w7; digest 8w7; digest 8w0", "0"},
		// InMeter.
		{"action f(i 8){meter meta.f=y[i];digest meta.f;} control{f(8w1);f(8w2);}", "", "sent port 0: meter y 1 1w1; digest 1w1; digest 1w0", "0"},
		{"control{meter meta.f=y[1w0];digest meta.f;meter meta.f=y[1w0];digest meta.f;meter g.d=y[1w1];digest g.d;meter g.d=y[1w1];}", "", "sent port 0: meter y 0 1w1; digest 1w1; meter y 0 1w0; digest 1w0; meter y 1 1w1; digest 1w0; meter y 1 1w0", "0"},
		{"control{meter meta.f=y[1w0];meter meta.f=y[8w9];clone 2;make g;meter g.d=y[1w1];meter g.d=y[8w9];}", "", "sent 00 port 0: meter y 0 1w1; clone 2; meter y 1 1w1", "0"}, {"control{meter meta.f=y[2w2];}", "", "sent port 0", "0 fixed"}, {"control{meter meta.f=y[1w1];}", "", "sent port 0: meter y 1 1w1", "0"},
		// InRandom.
		{"control{random h.a;random meta.f;digest h.a,meta.f;make g;random g.e;digest g.e;}", "", "sent 07 port 0: random 8w1b; random 1w1; digest 8w0 1w1; random 3w7; digest 3w7", "0"}, {"control{random h.a;}", "", "sent port 0: random 8w1b", "0"},
		// InDrop, InAgain, InRound.
		{start + "control{drop;meta.out=16w1;}", "0506", "dropped 0506", "0000 16 fixed"}, {start + "control{again;round;}", "0506", "sent 0506 port 0 again", "0000 16 fixed"}, {start + "control{round;again;}", "0506", "sent 0506 port 0 again", "0000 16 fixed"}, {start + "control{round;}", "0506", "sent 0506 port 0 round", "0000 16 fixed"}, {start + "control{again;}", "0506", "sent 0506 port 0 again", "0000 16 fixed"},
		{start + "control{round;again;drop;clone 15;clone 0;}", "0506", "dropped 0506: clone 15; clone 0", "0000 16 fixed"}, {start + "control{drop;h.a=8w1;make g;again;}", "0506", "dropped 000106", "0000 16 fixed"}, {start + "control{round;meta.out=16w9;}", "0506", "sent 0506 port 9 round", "0000 16 fixed"},
		// InDigest, InClone.
		{start + "control{digest h.a,h.a,h.b;digest 128w1;}", "0506", "sent 0506 port 0: digest 8w5 8w5 8w6; digest 128w1", "0000 16"}, {"control{clone 3;clone 3;}", "", "sent port 0: clone 3; clone 3", "0 fixed"},
		// InLit, InOp, InHash, InValid.
		{start + "control{digest h.a++h.b,h.a*h.b,h.a<<h.b,h.b>>1w1,~h.a,h.a&h.b,h.a|h.b,h.a^h.b,h.a-h.b,h.a+h.b;}", "0506", "sent 0506 port 0: digest 16w506 8w1e 8w40 8w3 8wfa 8w4 8w7 8w3 8wff 8wb", "0000 16"},
		{start + "control{digest h.a==h.b,h.a!=h.b,h.a<h.b,h.b<=h.a,1w1&&1w0,1w1||1w0,cast 4(h.a++h.b),cast 128(h.a),h.b[2:1],h.b[7:0];}", "0506", "sent 0506 port 0: digest 1w0 1w1 1w1 1w0 1w0 1w1 4w6 128w5 2w3 8w6", "0000 16"},
		{start + "control{digest hash crc16(h.a,h.b),hash crc32(72w313233343536373839),hash csum16(h.a,h.b),hash xor16(8w1,h.a++h.b,8w2),hash xor16(1w1);}", "0506", "sent 0506 port 0: digest 16w5283 32wcbf43926 16wfaf9 16w707 16w8000", "0000 16"},
	} {
		runs(t, parts+c.s, 3, c.b, c.want, c.seen)
	}
}

// TestCells: what is behind a pass in the world, and what the next one finds there.
func TestCells(t *testing.T) { // P16.1
	const s = parts + "control{count k[meta.port];read meta.m=r[1w1];write r[1w1]=meta.m+8wff;meter meta.f=y[1w1];random meta.m;drop;}"
	w := runs(t, s, 1, "", "dropped: count k 1; read r 1 8w0; write r 1 8wff; meter y 1 1w1; random 8w1b", "")
	w.Now = 9
	w = in(t, s, w, 0, "", "dropped: count k 0; read r 1 8wff; write r 1 8wfe; meter y 1 1w0; random 8wc5", "")
	w = in(t, s, w, 1, "", "dropped: count k 1; read r 1 8wfe; write r 1 8wfd; meter y 1 1w0; random 8w7f", "")
	p, _ := of(t, s)
	want, _ := source.New(p)
	want.Now, want.Random = 9, w.Random
	want.Arrays[0].Cells[1], want.Arrays[2].Cells = number(8, 0xfd), []api.Bits{number(64, 1), number(64, 2)}
	want.Arrays[3].Cells[1], want.Arrays[3].Last[1] = number(64, 0), 9
	if !same(w, want) {
		t.Errorf("the world behind three passes: %+v, want %+v", w, want)
	}
	// What a pass that ended in the parser leaves, is what there was.
	if got := in(t, s+start, w, 1, "01", "short", "00 8"); !same(got, w) {
		t.Errorf("the world behind none: %+v, want %+v", got, w)
	}
	w.Arrays[2].Cells[1].Lo = ^uint64(0)
	if got := in(t, parts+"control{count k[1w1];}", w, 1, "", "sent port 0: count k 1", "0 fixed"); got.Arrays[2].Cells[1] != number(64, 0) {
		t.Errorf("a counter that goes round: %+v", got.Arrays[2])
	}
}

func TestParsers(t *testing.T) { // P16.1, P16.2
	const h = "header h{a 8;} header g{b 8;} deparser{h;g;} "
	loop := h + "parser{s{take g;select h.a-g.b{8w0:accept;8w1:start;8w80&8w80:s;else reject;}} start{take h;go s;}}"
	one := h + "parser{start{take h;select h.a{8w5&8w7:accept;8w20&8wf0:more;8w20&8w20:reject;else start;}} more{take g;select g.b[1:0]{2w0&2w2:accept;else reject;}}}"
	for _, c := range []struct{ s, b, want, seen string }{
		{"", "", "sent port 0", "0 fixed"}, {"", "0102", "sent 0102 port 0", "0000 0 fixed"}, {h, "0102", "sent 0102 port 0", "0000 0 fixed"}, {"deparser{}", "01", "sent 01 port 0", "00 0 fixed"},
		{loop, "0505", "sent 0505 port 0", "ffff 16 fixed"}, {loop, "0504 0606 77", "sent 060677 port 0", "ffffffff00 32 fixed"}, {loop, "0506 05 77", "sent 050577 port 0", "ffffff00 24 fixed"}, {loop, "0502", "reject", "ffff 16 fixed"}, {loop, "0506", "short", "ffff 16"}, {loop, "05", "short", "00 8"}, {loop, "", "short", "0"},
		{h + "parser{start{go start;}}", "01", "steps", "00 0"}, {h + "parser{start{take h;go start;}}", "010203", "short", "000000 24"}, {h + "parser{start{select valid h{1w1:accept;else s;}} s{take h;take h;go start;}}", "0102", "sent 02 port 0", "0000 16 fixed"},
		{h + "parser{start{select 8w1{8w0&8w0:accept;else reject;}}}", "", "sent port 0", "0 fixed"}, {h + "parser{start{select 8w1{8w3:reject;8w2&8w2:reject;8w1:accept;8w1:reject;else reject;}}}", "", "sent port 0", "0 fixed"}, {h + "parser{start{select 128w10000000000000000{128w0&128w10000000000000000:accept;else reject;}}}", "", "reject", "0 fixed"},
		{h + "parser{start{select meta.port{16w3:accept;else reject;}}}", "", "sent port 0", "0 port fixed"}, {h + "parser{start{select meta.out{16w0:reject;else accept;}}}", "", "reject", "0 fixed"}, {h + "parser{start{go reject;}}", "01", "reject", "00 0 fixed"}, {h + "parser{start{take h;go reject;}} control{drop;clone 1;}", "01", "reject", "00 8 fixed"}, {h + "parser{start{select meta.port{else accept;}}}", "", "sent port 0", "0 fixed"},
		// The cases that were asked, and those alone, are looked at; of a header that is taken twice what was looked at at that time.
		{one, "0d", "sent 0d port 0", "07 8 fixed"}, {one, "2001", "sent 2001 port 0", "f702 16 fixed"}, {one, "2002", "reject", "f702 16 fixed"}, {one, "32", "reject", "f7 8 fixed"}, {one, "01050a", "sent 050a port 0", "f70700 16 fixed"}, {one, "0101", "short", "f7f7 16"},
		// What ended in the parser did nothing; a header of which only a part is left is not taken.
		{"counter k 1;header h{a 8;b 16;} parser{start{take h;go accept;}} control{count k[1w0];}", "0102", "short", "0000 8"}, {"header h{a 4;b 128;c 4;} parser{start{take h;select h.b{128w0&128w2:reject;else accept;}}} deparser{h;}", strings.Repeat("a5", 17) + "77", "sent " + strings.Repeat("a5", 17) + "77 port 0", strings.Repeat("00", 16) + "2000 136 fixed"},
	} {
		runs(t, c.s, 3, c.b, c.want, c.seen)
	}
}

// TestLooks: just those bits are looked at on which the way hangs.
func TestLooks(t *testing.T) { // P16.2
	const ahead = "header h{a 8;b 8;} header g{c 4;d 1;e 3;} meta{m 8;n 8;w 128;} parser{start{take h;take g;go accept;}} deparser{h;g;} register r 8 2; counter k 2; meter y 2 1 1; action f(p 8,q 8){meta.m=q;if p==8w5{drop;}} action o(p 8){meta.m=p;} table t{key{} actions o f; default o(8w5); size 1;} control{"
	for mask, l := range map[string][]string{
		"000000": {
			"", "if valid g{drop;}", "if 1w1{drop;}", "if meta.out==16w0{drop;}", "meta.m=h.a;meta.m=8w1;if meta.m==8w1{drop;}", "gone h;if h.a==8w0{drop;}", "gone h;h.a=h.b;make h;if h.a==8w0{drop;}", "meta.m=h.a+h.b*h.a;", "if (cast 16(h.a))[15:8]==8w0{drop;}", "if (cast 128(h.a))[127:64]==64w0{drop;}",
			"meta.port=16w3;if meta.port==16w3{drop;}", "h.a=8w9;h.b=8w7;if h.a<h.b{drop;}", "count k[h.a];", "o(h.a);o(8w5);if meta.m==8w5{drop;}", "o(h.a);apply t;if meta.m==8w5{drop;}", "meta.n=hash crc16(h.a,h.b)[7:0];", "gone h;make h;meta.m=h.a;", "if (h.a++8w3)[7:0]==8w3{drop;}", "f(8w1,h.a);",
		},
		"ff0000": {
			"if h.a==8w5{drop;}", "if 8w5!=h.a{drop;}", "if h.a<=8w1{drop;}", "if 8w1<h.a{drop;}", "if cast 16(h.a)==16w5{drop;}", "meta.m=h.a;if meta.m==8w5{drop;}", "meta.m=h.a;h.a=h.b;h.b=meta.m;if h.b==8w5{drop;}", "f(h.a,h.b);", "f(h.a,h.b);f(8w1,8w1);", "if h.a==8w9{if h.b==8w1{drop;}}", "if h.a==8w9{meta.m=h.b;}else{meta.m=8w1;}if meta.m==8w1{drop;}", "if (h.a<<8w1)[0:0]{drop;}", "if (h.a>>8w1)[7:7]{drop;}", "if (hash crc32(h.a))[0:0]{drop;}", "if (hash xor16(h.a))[7:0]==8w0{drop;}",
			"read meta.m=r[h.a];", "write r[h.a]=h.b;", "read meta.m=r[cast 32(h.a)<<1w1];if meta.m==8w0{drop;}", "if h.a==8w5{meta.n=8w1;}gone h;if h.a==8w0{drop;}", "if (h.a++h.b)[15:8]==8w5{drop;}", "o(h.a);if meta.m==8w5{drop;}", "if h.a-8w1==8w4{drop;}", "if h.a==8w5{again;}", "if h.a==8w5{}",
		},
		"00ff00": {"f(h.b,h.a);", "h.a=h.b;if h.a==8w1{drop;}", "if h.b==h.b{drop;}", "f(8w1,h.b);if meta.m==8w6{drop;}", "meta.w=cast 128(h.b)<<8w20;if meta.w==128w600000000{drop;}"},
		"ffff00": {"if h.a<h.b{drop;}", "if h.a==8w5{meta.m=h.b;}else{meta.m=8w1;}if meta.m==8w6{drop;}", "if (h.a<<h.b)[0:0]{drop;}", "if hash crc32(h.a,h.b)[3:3]==1w1{drop;}", "f(h.a,h.b);if meta.m==8w6{drop;}", "if h.a+h.b==8wb{drop;}", "f(h.a,h.b);f(h.b,h.a);", "meta.m=h.a;o(h.b);if meta.m==h.a{drop;}"},
		"0f0000": {"if h.a[3:0]==4w5{drop;}", "if cast 4(h.a)==4w1{drop;}", "meta.m=h.a;meta.n=meta.m;if meta.n[3:0]==4w5{drop;}", "if h.a[7:0][5:0][3:0]==4w1{drop;}"},
		"800000": {"if h.a[7:7]{drop;}", "if (h.a++h.b)[15:15]{drop;}", "if (~h.a)[7:7]{drop;}"},
		"010000": {"if h.a[0:0]{drop;}", "if cast 1(h.a){drop;}", "if (h.a+8w1)[0:0]{drop;}", "if h.a[0:0]||1w1{drop;}", "if valid g&&h.a[0:0]{drop;}", "o(h.a);if meta.m[0:0]{drop;}"},
		"000800": {"if h.b[3:3]{drop;}", "if (8w1++h.b)[3:3]{drop;}"},
		"0ff000": {"if (h.a++h.b)[11:4]==8w1{drop;}", "meta.m=(h.a++h.b)[11:4];if meta.m==8w1{drop;}"},
		"070700": {"if (h.a+h.b)[2:0]==3w1{drop;}", "if (h.a-h.b)[2:0]==3w1{drop;}", "if (h.a*h.b)[2:0]==3w1{drop;}", "if (h.a*h.b)[2:2]{drop;}", "if (h.a+h.b)[2:1]==2w1{drop;}"},
		"101000": {"if (h.a&h.b)[4:4]{drop;}", "if (h.a|h.b)[4:4]{drop;}", "if (h.a^h.b)[4:4]{drop;}"},
		"000008": {"if g.d{drop;}", "if ~g.d{drop;}", "if g.d&&valid h{drop;}", "if g.d||1w1{drop;}"},
		"000007": {"if g.e==3w1{drop;}", "if hash xor16(g.e)==16w0{drop;}"},
		"0000f0": {"if g.c==4w1{drop;}"},
		"ff0007": {"if hash xor16(h.a,g.e)==16w1{drop;}", "if h.a==8w5{if g.e==3w1{drop;}}"},
		"0f00f8": {"if h.a[3:0]!=g.c{if g.d{drop;}}"},
	} {
		for _, s := range l {
			runs(t, ahead+s+"}", 3, "0506 9f 77", "", mask+"00 24 fixed")
		}
	}
	for _, s := range []string{"if meta.port==16w3{drop;}", "if meta.port[0:0]{drop;}", "meta.out=meta.port;if meta.out==16w3{drop;}", "if hash crc16(meta.port)==16w1{drop;}", "read meta.m=r[meta.port];", "if meta.port==16w4{}"} {
		runs(t, ahead+s+"}", 3, "0506 9f 77", "", "00000000 24 port fixed")
	}
	for _, s := range []string{"meter g.d=y[h.a];if g.d{drop;}", "meter g.d=y[h.a];"} {
		runs(t, ahead+s+"}", 3, "0506 9f 77", "", "ff000000 24 fixed")
	}
}

// TestWideLooks: likewise of numbers with more bits than a word has.
func TestWideLooks(t *testing.T) { // P16.2
	type span struct{ low, high int } // bits of a field
	none, all := span{1, 0}, span{0, 127}
	for s, want := range map[string][2]span{
		"(h.a+h.b)[100:100]": {{0, 100}, {0, 100}}, "(h.a-h.b)[64:64]": {{0, 64}, {0, 64}}, "(h.a*h.b)[63:63]": {{0, 63}, {0, 63}}, "(h.a+128w1)[127:127]": {all, none}, "(~h.a)[100:100]": {{100, 100}, none}, "(h.a^h.b)[64:63]==2w1": {{63, 64}, {63, 64}}, "(h.a&h.b)[127:127]": {{127, 127}, {127, 127}},
		"cast 65(h.a)==65w0": {{0, 64}, none}, "(h.a[63:0]++h.b[63:0])[64:64]": {{0, 0}, none}, "(h.a[63:0]++h.b[63:0])[63:63]": {none, {63, 63}}, "(h.a[0:0]++h.b[126:0])[127:127]": {{0, 0}, none}, "h.a[127:64]==64w0": {{64, 127}, none}, "h.b[127:1][126:126]": {none, {127, 127}}, "(hash crc32(h.b))[31:31]": {none, all}, "h.a<h.b": {all, all}, "(h.a<<7w64)[127:127]": {all, none},
	} {
		mask := make([]byte, 32)
		for i, x := range want {
			for n := x.low; n <= x.high; n++ {
				mask[16*i+15-n/8] |= 1 << (n % 8)
			}
		}
		for _, b := range []string{strings.Repeat("00", 32), strings.Repeat("ff", 32), strings.Repeat("0a59", 16)} {
			runs(t, "header h{a 128;b 128;} parser{start{take h;go accept;}} deparser{h;} control{if "+s+"{drop;}}", 1, b, "", fmt.Sprintf("%x 256 fixed", mask))
		}
	}
}

// TestStraightCode: code that lays numbers straight into the slots of fields, as no program's code does, lets go of what was there.
func TestStraightCode(t *testing.T) { // P16.2
	p, c := of(t, "header h{a 8;} register r 8 1; meter y 1 1 1; meta{m 8;f 1;} parser{start{take h;go accept;}} deparser{h;}")
	w, _ := source.New(p)
	a, m, f := c.Heads[0].Slots[0], c.Meta[2], c.Meta[3]
	move, cut := api.Ins{Op: api.InMove, To: m, A: a}, api.Ins{Op: api.InOp, By: api.OpCast, To: f, A: m, N: 1}
	ask := []api.Ins{{Op: api.InUnless, A: f, N: 4}, {Op: api.InDrop}}
	for _, x := range []struct {
		l    []api.Ins
		seen string
	}{
		{[]api.Ins{move, cut}, "0100 8 fixed"},
		{[]api.Ins{move, {Op: api.InLit, To: m, Lit: number(8, 3)}, cut}[1:], "0000 8 fixed"},
		{[]api.Ins{cut, {Op: api.InValid, To: f}}, "0000 8 fixed"},
		{[]api.Ins{move, {Op: api.InOp, By: api.OpCast, To: f, A: a, N: 1}}, "0100 8 fixed"},
		{[]api.Ins{{Op: api.InLit, To: a, Lit: number(8, 3)}, {Op: api.InOp, By: api.OpCast, To: f, A: a, N: 1}}, "0000 8 fixed"},
		{[]api.Ins{{Op: api.InRead, To: a, A: c.Meta[0]}, {Op: api.InOp, By: api.OpCast, To: f, A: a, N: 1}}, "0000 8 port fixed"},
		{[]api.Ins{{Op: api.InOp, By: api.OpCast, To: f, A: a, N: 1}, {Op: api.InMeter, To: f, N: 1, A: c.Meta[0]}}, "0000 8 port fixed"},
	} {
		c.Main = append(slices.Clone(x.l), ask...)
		h := handed{p, c, w, 3, []byte{5, 6}}
		if got := h.run(); got.E != api.OK || look(got.Seen) != x.seen {
			t.Errorf("%+v: %d, %s, want %s", x.l, got.E, look(got.Seen), x.seen)
		}
	}
}

// TestTables: their keys are asked when they are applied, and the entry's action is done with its args; looked at are the bits that entries ask.
func TestTables(t *testing.T) { // P16.1, P16.2
	const s = `header h{a 8;b 8;} parser{start{take h;go accept;}} deparser{h;} action none(){} action set(p 8,q 16){h.b=p;meta.out=q;} action plus(q 8){if h.a<q{h.b=h.b+q;}else{drop;}}
		table t{key{h.a+8w1 exact;meta.port mask;} actions plus set; default set(8w63,16w2); size 3;} table u{key{} actions none set; default none(); size 1;} control{h.a=h.a+8w1;apply t;apply u;}`
	p, _ := of(t, s)
	w, _ := source.New(p)
	in(t, s, w, 3, "0501", "sent 0663 port 2: hit t -1; hit u -1", "0000 16 fixed")
	w.Tables[0].Entries = []api.Entry{
		{Matches: []api.Match{{Value: number(8, 7)}, {Value: number(16, 0), Mask: number(16, 0)}}, Priority: 1, Action: "plus", Args: []api.Bits{number(8, 9)}},
		{Matches: []api.Match{{Value: number(8, 7)}, {Value: number(16, 3), Mask: number(16, 0xffff)}}, Priority: 2, Action: "set", Args: []api.Bits{number(8, 0xee), number(16, 0x1234)}},
		{Matches: []api.Match{{Value: number(8, 11)}, {Value: number(16, 0), Mask: number(16, 0)}}, Priority: 1, Action: "plus", Args: []api.Bits{number(8, 9)}},
	}
	in(t, s, w, 3, "0501", "sent 06ee port 4660: hit t 1; hit u -1", "ff00 16 port fixed")
	in(t, s, w, 4, "0501", "sent 060a port 0: hit t 0; hit u -1", "ff00 16 port fixed")
	in(t, s, w, 4, "0901", "dropped 0a01: hit t 2; hit u -1", "ff00 16 port fixed")
	in(t, s, w, 4, "0601", "sent 0763 port 2: hit t -1; hit u -1", "ff00 16 port fixed")
	// No entry asks for the port.
	w.Tables[0].Entries = slices.Delete(w.Tables[0].Entries, 1, 2)
	in(t, s, w, 4, "0501", "sent 060a port 0: hit t 0; hit u -1", "ff00 16 fixed")
	// The world's default counts, not the program's; a table without keys has an entry that always matches.
	w.Tables[0].Default, w.Tables[0].Args = "plus", []api.Bits{number(8, 0x20)}
	in(t, s, w, 4, "0601", "sent 0721 port 0: hit t -1; hit u -1", "ff00 16 fixed")
	w.Tables[1].Entries = []api.Entry{{Action: "set", Args: []api.Bits{number(8, 1), number(16, 5)}}}
	in(t, s, w, 4, "0601", "sent 0701 port 5: hit t -1; hit u 0", "ff00 16 fixed")
}

// TestKinds: of each kind of key the bits that its entries ask.
func TestKinds(t *testing.T) { // P16.2
	program := func(kind string) string {
		return "header h{a 4;b 16;c 4;} parser{start{take h;go accept;}} deparser{h;} action f(){} action d(){drop;} table t{key{h.b " + kind + ";h.c exact;} actions f d; default f(); size 9;} control{apply t;}"
	}
	entry := func(v, mask uint64, n, priority int, action string) api.Entry {
		e := api.Entry{Matches: []api.Match{{Value: number(16, v), Len: n}, {Value: number(4, 3)}}, Priority: priority, Action: action}
		if priority > 0 {
			e.Matches[0].Mask = number(16, mask)
		}
		return e
	}
	for _, c := range []struct {
		kind       string
		l          []api.Entry
		b, b2      string
		seen, want string
	}{
		{"exact", []api.Entry{entry(0x1234, 0, 0, 0, "d")}, "012343", "012353", "0fffff 24 fixed", "dropped 012343: hit t 0"},
		{"prefix", []api.Entry{entry(0x1000, 0, 4, 0, "d"), entry(0x1200, 0, 7, 0, "f"), entry(0, 0, 0, 0, "f")}, "012343", "011343", "0fe00f 24 fixed", "sent 012343 port 0: hit t 1"},
		{"prefix", []api.Entry{entry(0, 0, 0, 0, "d")}, "012343", "", "00000f 24 fixed", "dropped 012343: hit t 0"},
		{"prefix", []api.Entry{entry(0x1234, 0, 16, 0, "d")}, "012343", "", "0fffff 24 fixed", "dropped 012343: hit t 0"},
		{"mask", []api.Entry{entry(0x1030, 0x10f0, 0, 1, "d"), entry(0x0004, 0x0004, 0, 2, "f")}, "012343", "012303", "010f4f 24 fixed", "sent 012343 port 0: hit t 1"},
		{"mask", []api.Entry{entry(0, 0, 0, 1, "d")}, "012343", "", "00000f 24 fixed", "dropped 012343: hit t 0"},
		{"range", []api.Entry{entry(0x1230, 0x1238, 0, 1, "d")}, "012343", "012393", "0fffff 24 fixed", "dropped 012343: hit t 0"},
		{"range", nil, "012343", "", "000000 24 fixed", "sent 012343 port 0: hit t -1"},
	} {
		p, _ := of(t, program(c.kind))
		w, _ := source.New(p)
		w.Tables[0].Entries = c.l
		in(t, program(c.kind), w, 3, c.b, c.want, c.seen)
		if c.b2 != "" {
			in(t, program(c.kind), w, 3, c.b2, "", c.seen)
		}
	}
}

// TestTooLong: one that is too long when it is put together is not fixed: a shorter one goes another way.
func TestTooLong(t *testing.T) { // P16.1, P16.2
	const s = "header h{a 8;} control{make h;clone 1;} deparser{h;}"
	b := strings.Repeat("05", 2047)
	runs(t, s, 3, b, "sent 00"+b+" port 0: clone 1", strings.Repeat("00", 2047)+" 0 fixed")
	runs(t, s, 3, b+"05", "dropped: clone 1", strings.Repeat("00", 2048)+" 0")
	runs(t, strings.Replace(s, "make h", "drop;make h", 1), 3, b+"05", "dropped: clone 1", strings.Repeat("00", 2048)+" 0")
	runs(t, strings.Replace(s, "make h", "again;make h", 1), 3, b+"05", "dropped: clone 1", strings.Repeat("00", 2048)+" 0")
	runs(t, "control{drop;}", 3, "", "dropped", "0 fixed")
}
