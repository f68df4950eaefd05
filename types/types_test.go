package types_test

import (
	"strings"
	"sync"
	"testing"

	"pointsman/api"
	"pointsman/parse"
	"pointsman/types"
)

func parsed(t *testing.T, s string) api.Program {
	t.Helper()
	p, line, e := parse.Parse(s)
	if e != api.OK {
		t.Fatalf("Parse(%.2000q): %d, %d", s, line, e)
	}
	return p
}

// exprOf is an expression as it is parsed.
func exprOf(t *testing.T, s string) api.Expr {
	t.Helper()
	return parsed(t, "control{digest "+s+";}")[0].Body[0].Args[0]
}

// checks asks for what Check says of a text's program.
func checks(t *testing.T, s string, line int, want api.Errno) {
	t.Helper()
	if n, e := types.Check(parsed(t, s)); n != line || e != want {
		t.Errorf("Check(%.2000q) = %d, %d, want %d, %d", s, n, e, line, want)
	}
}

// widthIs asks for what Width says of an expression.
func widthIs(t *testing.T, p api.Program, params []api.Field, x api.Expr, width int, want api.Errno) {
	t.Helper()
	if w, e := types.Width(p, params, x); w != width || e != want {
		t.Errorf("Width(%.2000s) = %d, %d, want %d, %d", told(x), w, e, width, want)
	}
}

func TestExamples(t *testing.T) { // P10.1, P10.2
	for _, c := range []struct {
		s    string
		line int
		want api.Errno
	}{
		{"", 0, api.OK},
		{"header h{a 8;} control{h.a=h.a+8w1; meta.out=cast 16(h.a);}", 0, api.OK},
		{"header h{a 7;}", 0, api.ErrArg}, {"header h{}", 0, api.ErrArg}, {"header h{a 8;a 8;}", 0, api.ErrName}, {"header h{a 0;b 8;}", 0, api.ErrArg},
		{"control{\nx.a=1w1;}", 1, api.ErrName}, {"control{\nmeta.port=8w1;}", 1, api.ErrWidth}, {"control{\nif meta.port{}}", 1, api.ErrWidth},
		{"counter c 1; meter c 1 1 1;", 0, api.ErrName}, {"control{} control{}", 0, api.ErrName}, {"meta{port 8;}", 0, api.ErrName},
		{"parser{s{go accept;}}", 0, api.ErrName}, {"parser{start{go s;}}", 0, api.ErrName}, {"parser{start{select meta.port{8w1:start;else reject;}}}", 0, api.ErrWidth},
		{"action a(){apply t;}", 0, api.ErrArg}, {"action a(p 8){meta.out=p;}", 0, api.ErrWidth}, {"action a(p 8){} control{a();}", 0, api.ErrArg},
		{"action a(){} table t{key{meta.port prefix;meta.out prefix;} actions a; default a(); size 1;}", 0, api.ErrArg},
		{"action a(){} table t{key{} actions a; default a(); size 1;} control{apply t;\napply t;}", 1, api.ErrArg},
	} {
		checks(t, c.s, c.line, c.want)
	}
	params := []api.Field{{Name: "p", W: 5}}
	widthIs(t, nil, params, exprOf(t, "16w1 ++ 8w2"), 24, api.OK)
	widthIs(t, nil, params, exprOf(t, "16w1 + 8w2"), 0, api.ErrWidth)
	widthIs(t, nil, params, exprOf(t, "hash crc32(8w1)"), 32, api.OK)
	widthIs(t, nil, params, exprOf(t, "p"), 5, api.OK)
}

// base declares something of each kind, in the line 0.
const base = "header h{a 8;b 16;} header g{c 4;d 1;e 3;} meta{m 8;f 1;} register r 16 4; register u 1 4; counter k 4; meter y 4 1 1; action n(){} action o(p 8,q 16){} action v(h 8){} " +
	"table t{key{} actions n; default n(); size 1;} table w{key{} actions n; default n(); size 1;}\n"

type row struct {
	s    string
	want api.Errno
}

// stmtRows are statements, each in one line, of a program that has base; of a control or an action.
var stmtRows = []row{
	// StSet: the field, the Arg, how wide.
	{"h.a=8w1;", 0}, {"h.b=16w1;", 0}, {"g.d=1w1;", 0}, {"meta.port=16w1;", 0}, {"meta.out=meta.port;", 0}, {"meta.m=8w1;", 0}, {"g.e=g.c[2:0];", 0},
	{"z.a=8w1;", api.ErrName}, {"h.z=8w1;", api.ErrName}, {"h.c=4w1;", api.ErrName}, {"h.port=16w1;", api.ErrName}, {"meta.a=8w1;", api.ErrName}, {"r.a=8w1;", api.ErrName}, {"o.p=8w1;", api.ErrName},
	{"h.a=7w1;", api.ErrWidth}, {"h.a=9w1;", api.ErrWidth}, {"h.a=h.b;", api.ErrWidth}, {"meta.out=8w1;", api.ErrWidth}, {"h.a=z;", api.ErrName}, {"h.a=z.a;", api.ErrName},
	{"h.z=7w1+8w1;", api.ErrName}, {"h.z=8w1[8:0];", api.ErrName}, {"h.a=9w1[9:0];", api.ErrArg},
	// StIf: the Arg, how wide, the Body, the Else.
	{"if 1w1{}", 0}, {"if valid h{drop;}else{h.a=8w1;}", 0}, {"if g.d{if 1w0{}else{}}", 0},
	{"if 2w1{}", api.ErrWidth}, {"if h.a{}", api.ErrWidth}, {"if z{}", api.ErrName}, {"if valid z{}", api.ErrName}, {"if 1w1{make z;}", api.ErrName}, {"if 1w1{}else{make z;}", api.ErrName},
	{"if 1w1{clone 16;}else{make z;}", api.ErrArg}, {"if 1w1{make z;}else{clone 16;}", api.ErrName}, {"if 2w1{make z;}else{make z;}", api.ErrWidth}, {"if 8w1[8:8]{make z;}", api.ErrArg},
	// StMake, StGone.
	{"make h;", 0}, {"gone g;", 0}, {"make h; make h; gone h; gone h;", 0},
	{"make z;", api.ErrName}, {"gone z;", api.ErrName}, {"make r;", api.ErrName}, {"gone k;", api.ErrName}, {"make y;", api.ErrName}, {"make n;", api.ErrName}, {"gone t;", api.ErrName}, {"make a;", api.ErrName},
	// StCount: the counter, the Arg.
	{"count k[8w1];", 0}, {"count k[128w1];", 0}, {"count k[1w1];", 0},
	{"count z[8w1];", api.ErrName}, {"count r[8w1];", api.ErrName}, {"count y[8w1];", api.ErrName}, {"count h[8w1];", api.ErrName}, {"count k[z];", api.ErrName}, {"count z[8w1[8:0]];", api.ErrName}, {"count k[8w1[8:0]];", api.ErrArg},
	// StRead: the field, the array, the Arg, how wide.
	{"read h.b=r[8w1];", 0}, {"read meta.port=r[128w1];", 0}, {"read g.d=u[h.a];", 0},
	{"read z.b=r[8w1];", api.ErrName}, {"read h.z=r[8w1];", api.ErrName}, {"read h.b=z[8w1];", api.ErrName}, {"read h.b=k[8w1];", api.ErrName}, {"read g.d=y[8w1];", api.ErrName}, {"read h.b=h[8w1];", api.ErrName},
	{"read h.b=r[z];", api.ErrName}, {"read h.a=r[8w1];", api.ErrWidth}, {"read h.b=u[8w1];", api.ErrWidth}, {"read h.a=z[8w1];", api.ErrName}, {"read h.z=r[8w1[8:0]];", api.ErrName}, {"read h.b=z[8w1[8:0]];", api.ErrName}, {"read h.a=r[8w1[8:0]];", api.ErrArg},
	// StMeter: likewise.
	{"meter g.d=y[8w1];", 0}, {"meter meta.f=y[128w1];", 0},
	{"meter z.d=y[8w1];", api.ErrName}, {"meter g.z=y[8w1];", api.ErrName}, {"meter g.d=z[8w1];", api.ErrName}, {"meter g.d=u[8w1];", api.ErrName}, {"meter g.d=k[8w1];", api.ErrName}, {"meter g.d=y[z];", api.ErrName},
	{"meter h.a=y[8w1];", api.ErrWidth}, {"meter g.e=y[1w1];", api.ErrWidth}, {"meter h.a=z[8w1];", api.ErrName}, {"meter g.z=y[8w1[8:0]];", api.ErrName}, {"meter g.d=z[8w1[8:0]];", api.ErrName}, {"meter h.a=y[8w1[8:0]];", api.ErrArg},
	// StWrite: the array, the Args, how wide.
	{"write r[8w1]=16w1;", 0}, {"write r[128w1]=h.b;", 0}, {"write u[h.a]=1w1;", 0},
	{"write z[8w1]=16w1;", api.ErrName}, {"write k[8w1]=16w1;", api.ErrName}, {"write y[8w1]=1w1;", api.ErrName}, {"write r[z]=16w1;", api.ErrName}, {"write r[8w1]=z;", api.ErrName},
	{"write r[16w1]=8w1;", api.ErrWidth}, {"write r[8w1]=15w1;", api.ErrWidth}, {"write r[8w1]=17w1;", api.ErrWidth}, {"write u[1w1]=2w1;", api.ErrWidth}, {"write z[8w1[8:0]]=8w1;", api.ErrName}, {"write r[8w1[8:0]]=z;", api.ErrArg}, {"write r[z]=8w1[8:0];", api.ErrName}, {"write r[z]=8w1;", api.ErrName},
	// StRandom.
	{"random h.a;", 0}, {"random meta.out;", 0}, {"random meta.m;", 0}, {"random z.a;", api.ErrName}, {"random h.z;", api.ErrName}, {"random meta.z;", api.ErrName}, {"random r.a;", api.ErrName},
	// StDrop, StAgain, StRound.
	{"drop;", 0}, {"again; round; again; drop; round; drop;", 0},
	// StDigest: how many, the Args.
	{"digest 8w1;", 0}, {"digest h.a,1w1,meta.out,128w1;", 0}, {"digest z;", api.ErrName}, {"digest h.a,z.a;", api.ErrName}, {"digest z,8w1[8:0];", api.ErrName}, {"digest 8w1[8:0],z;", api.ErrArg},
	{"digest 8w1" + strings.Repeat(",8w1", 63) + ";", 0}, {"digest 8w1" + strings.Repeat(",8w1", 64) + ";", api.ErrLimit}, {"digest z" + strings.Repeat(",8w1", 64) + ";", api.ErrLimit}, {"digest 8w1" + strings.Repeat(",8w1", 62) + ",z;", api.ErrName},
	// StClone.
	{"clone 0;", 0}, {"clone 15;", 0}, {"clone 16;", api.ErrArg}, {"clone 2147483647;", api.ErrArg},
	// What stands behind counts too, and what stands ahead counts first.
	{"drop; make z;", api.ErrName}, {"make z; clone 16;", api.ErrName}, {"clone 16; make z;", api.ErrArg}, {"if 1w1{} clone 16;", api.ErrArg},
}

// controlRows are statements of a control alone.
var controlRows = []row{
	// StApply: the table, once.
	{"apply t;", 0}, {"apply t; apply w;", 0}, {"if 1w1{apply t;}else{apply w;}", 0}, {"if 1w1{apply t;} apply w;", 0},
	{"apply z;", api.ErrName}, {"apply n;", api.ErrName}, {"apply h;", api.ErrName}, {"apply t; apply t;", api.ErrArg}, {"apply t; apply w; apply t;", api.ErrArg}, {"apply t; apply z;", api.ErrName}, {"apply z; apply z;", api.ErrName},
	{"if 1w1{apply t;}else{apply t;}", api.ErrArg}, {"if 1w1{apply t;} apply t;", api.ErrArg}, {"apply t; if 1w1{apply t;}", api.ErrArg}, {"if 1w1{}else{apply w;} if 1w1{drop; apply w;}", api.ErrArg},
	// StCall: the action, how many, each Arg and how wide.
	{"n();", 0}, {"n(); n();", 0}, {"o(8w1,16w1);", 0}, {"o(h.a,h.b);", 0}, {"v(8w1);", 0},
	{"z();", api.ErrName}, {"h();", api.ErrName}, {"t();", api.ErrName}, {"z(8w1[8:0]);", api.ErrName}, {"n(8w1);", api.ErrArg}, {"n(z);", api.ErrArg}, {"o();", api.ErrArg}, {"o(8w1);", api.ErrArg}, {"o(8w1,16w1,8w1);", api.ErrArg}, {"o(z);", api.ErrArg},
	{"o(7w1,16w1);", api.ErrWidth}, {"o(8w1,15w1);", api.ErrWidth}, {"o(16w1,8w1);", api.ErrWidth}, {"o(z,16w1);", api.ErrName}, {"o(8w1,z);", api.ErrName},
	{"o(7w1,z);", api.ErrWidth}, {"o(7w1,8w1[8:0]);", api.ErrWidth}, {"o(8w1[8:0],z);", api.ErrArg}, {"o(z,8w1[8:0]);", api.ErrName}, {"o(8w1,8w1[8:0]);", api.ErrArg},
	// There are no params.
	{"h.a=p;", api.ErrName}, {"if x{}", api.ErrName}, {"o(p,16w1);", api.ErrName}, {"digest h;", api.ErrName},
}

// actionRows are statements of an action alone, with params p, 8 wide, and x, 1 wide.
var actionRows = []row{
	{"h.a=p;", 0}, {"h.a=p+8w1;", 0}, {"if x{}", 0}, {"count k[p];", 0}, {"h.b=p;", api.ErrWidth}, {"if p{}", api.ErrWidth}, {"h.a=q;", api.ErrName}, {"h.a=h;", api.ErrName}, {"h.a=a;", api.ErrName},
	{"apply t;", api.ErrArg}, {"apply z;", api.ErrArg}, {"if x{apply t;}", api.ErrArg}, {"if x{}else{apply t;}", api.ErrArg},
	{"n();", api.ErrArg}, {"z();", api.ErrArg}, {"n(z);", api.ErrArg}, {"o(8w1,16w1);", api.ErrArg}, {"o(7w1,z);", api.ErrArg}, {"self(8w1,1w1);", api.ErrArg}, {"if x{n();}", api.ErrArg},
}

// lineOf is the line of an error; of none it is 0.
func lineOf(line int, e api.Errno) int {
	if e == api.OK {
		return 0
	}
	return line
}

func TestStatements(t *testing.T) { // P10.1
	stands := func(c row, in string) {
		t.Helper()
		checks(t, base+in+"\n\n"+c.s+"}", lineOf(3, c.want), c.want)
		checks(t, in+"\n\n"+c.s+"}"+base, lineOf(2, c.want), c.want)
		checks(t, base+in+"if 1w1{drop;\n"+c.s+"}}", lineOf(2, c.want), c.want)
		checks(t, base+in+"if 1w1{}else{if 1w0{}\n"+c.s+"}}", lineOf(2, c.want), c.want)
	}
	const control, action = "control{", "action self(p 8,x 1){"
	for _, c := range stmtRows {
		stands(c, control)
		stands(c, action)
	}
	for _, c := range controlRows {
		stands(c, control)
	}
	for _, c := range actionRows {
		stands(c, action)
	}
}

// exprRows are expressions of a program that has base, and of the params p, 8 wide, and x, 1 wide.
var exprRows = []struct {
	s     string
	width int
	want  api.Errno
}{
	{"8w1", 8, 0}, {"1w0", 1, 0}, {"128w1", 128, 0},
	{"h.a", 8, 0}, {"h.b", 16, 0}, {"g.d", 1, 0}, {"meta.port", 16, 0}, {"meta.out", 16, 0}, {"meta.m", 8, 0}, {"meta.f", 1, 0},
	{"z.a", 0, api.ErrName}, {"h.z", 0, api.ErrName}, {"h.c", 0, api.ErrName}, {"h.port", 0, api.ErrName}, {"meta.a", 0, api.ErrName}, {"meta.z", 0, api.ErrName}, {"r.a", 0, api.ErrName}, {"o.p", 0, api.ErrName}, {"h.h", 0, api.ErrName}, {"h.m", 0, api.ErrName},
	{"p", 8, 0}, {"x", 1, 0}, {"q", 0, api.ErrName}, {"h", 0, api.ErrName}, {"a", 0, api.ErrName}, {"port", 0, api.ErrName}, {"r", 0, api.ErrName}, {"start", 0, api.ErrName},
	{"valid h", 1, 0}, {"valid g", 1, 0}, {"valid z", 0, api.ErrName}, {"valid r", 0, api.ErrName}, {"valid t", 0, api.ErrName}, {"valid p", 0, api.ErrName}, {"valid a", 0, api.ErrName},
	{"8w1[7:0]", 8, 0}, {"8w1[0:0]", 1, 0}, {"8w1[7:7]", 1, 0}, {"8w1[6:2]", 5, 0}, {"128w1[127:0]", 128, 0}, {"128w1[127:127]", 1, 0}, {"h.b[15:8]", 8, 0}, {"8w1[7:4][3:2]", 2, 0}, {"p[3:0]", 4, 0},
	{"8w1[8:0]", 0, api.ErrArg}, {"8w1[8:8]", 0, api.ErrArg}, {"8w1[0:1]", 0, api.ErrArg}, {"8w1[6:7]", 0, api.ErrArg}, {"1w1[1:0]", 0, api.ErrArg}, {"8w1[2147483647:2147483647]", 0, api.ErrArg}, {"8w1[0:2147483647]", 0, api.ErrArg}, {"8w1[7:4][4:0]", 0, api.ErrArg}, {"z[9:9]", 0, api.ErrName},
	{"cast 1(8w1)", 1, 0}, {"cast 128(8w1)", 128, 0}, {"cast 8(8w1)", 8, 0}, {"cast 16(p)", 16, 0}, {"cast 0(8w1)", 0, api.ErrArg}, {"cast 129(8w1)", 0, api.ErrArg}, {"cast 2147483647(8w1)", 0, api.ErrArg}, {"cast 0(z)", 0, api.ErrName},
	{"hash crc16(8w1)", 16, 0}, {"hash crc32(8w1)", 32, 0}, {"hash csum16(p,128w1,1w1)", 16, 0}, {"hash xor16(h.a)", 16, 0}, {"hash crc8(8w1)", 0, api.ErrName}, {"hash CRC16(8w1)", 0, api.ErrName}, {"hash h(8w1)", 0, api.ErrName}, {"hash crc16(z)", 0, api.ErrName}, {"hash crc8(8w1[8:0])", 0, api.ErrArg},
	{"hash crc16(8w1" + strings.Repeat(",8w1", 63) + ")", 16, 0}, {"hash crc16(8w1" + strings.Repeat(",8w1", 64) + ")", 0, api.ErrLimit}, {"hash crc8(8w1" + strings.Repeat(",8w1", 64) + ")", 0, api.ErrName}, {"hash crc16(8w1" + strings.Repeat(",8w1", 64) + ",z)", 0, api.ErrName}, {"hash crc32(128w1" + strings.Repeat(",128w1", 63) + ")", 32, 0},
	{"~8w1", 8, 0}, {"~x", 1, 0}, {"~~128w1", 128, 0}, {"~z", 0, api.ErrName},
	{"8w1 << 8w1", 8, 0}, {"8w1 << 128w1", 8, 0}, {"128w1 >> 1w1", 128, 0}, {"1w1 >> 16w1", 1, 0}, {"z << 8w1", 0, api.ErrName}, {"8w1 >> z", 0, api.ErrName}, {"z << 8w1[8:0]", 0, api.ErrName}, {"8w1[8:0] >> z", 0, api.ErrArg},
	{"8w1 ++ 16w1", 24, 0}, {"64w1 ++ 64w1", 128, 0}, {"127w1 ++ 1w1", 128, 0}, {"1w1 ++ 127w1", 128, 0}, {"64w1 ++ 65w1", 0, api.ErrWidth}, {"65w1 ++ 64w1", 0, api.ErrWidth}, {"128w1 ++ 128w1", 0, api.ErrWidth}, {"128w1 ++ 1w1", 0, api.ErrWidth}, {"64w1 ++ 32w1 ++ 32w1", 128, 0}, {"64w1 ++ 32w1 ++ 33w1", 0, api.ErrWidth}, {"z ++ 8w1[8:0]", 0, api.ErrName}, {"128w1 ++ z", 0, api.ErrName},
	{"1w1 && 1w1", 1, 0}, {"x || g.d", 1, 0}, {"valid h && valid g || ~valid h", 1, 0}, {"2w1 && 1w1", 0, api.ErrWidth}, {"1w1 && 2w1", 0, api.ErrWidth}, {"2w1 && 2w1", 0, api.ErrWidth}, {"1w1 || 2w1", 0, api.ErrWidth}, {"2w1 || 1w1", 0, api.ErrWidth}, {"p || p", 0, api.ErrWidth}, {"z && 2w1", 0, api.ErrName}, {"2w1 || z", 0, api.ErrName},
	{"h.a + p == meta.m", 1, 0}, {"(h.a == p) == x", 1, 0}, {"(h.a == p) == p", 0, api.ErrWidth}, {"(7w1 + 8w1) + z", 0, api.ErrWidth}, {"z + (7w1 + 8w1)", 0, api.ErrName}, {"cast 0(8w1) + (7w1 + 8w1)", 0, api.ErrArg}, {"(7w1 + 8w1) + cast 0(8w1)", 0, api.ErrWidth},
}

func TestExpressions(t *testing.T) { // P10.1, P10.2
	p := parsed(t, base)
	params := []api.Field{{Name: "p", W: 8}, {Name: "x", W: 1}}
	for _, c := range exprRows {
		widthIs(t, p, params, exprOf(t, c.s), c.width, c.want)
		checks(t, base+"action self(p 8,x 1){drop;\ndigest "+c.s+";}", lineOf(2, c.want), c.want)
		checks(t, base+"action self(p 8,x 1){if x{\ncount k["+c.s+"];}}", lineOf(2, c.want), c.want)
		if c.want == api.OK {
			operationsOf(t, p, params, "("+c.s+")", c.width)
		}
	}
}

// operationsOf asks for operations that want Args of one width, with an expression on both sides, and beside one that is not as wide.
func operationsOf(t *testing.T, p api.Program, params []api.Field, s string, width int) {
	t.Helper()
	other := "(cast 1(" + s + "))"
	if width == 1 {
		other = "2w1"
	}
	for _, op := range []string{"+", "-", "*", "&", "|", "^", "==", "!=", "<", "<="} {
		want := width
		if strings.ContainsAny(op, "=<") {
			want = 1
		}
		widthIs(t, p, params, exprOf(t, s+op+s), want, api.OK)
		widthIs(t, p, params, exprOf(t, s+op+other), 0, api.ErrWidth)
		widthIs(t, p, params, exprOf(t, other+op+s), 0, api.ErrWidth)
		widthIs(t, p, params, exprOf(t, s+op+"z"), 0, api.ErrName)
		widthIs(t, p, params, exprOf(t, "z"+op+s), 0, api.ErrName)
	}
}

// declRows are declarations of a program that has base, the wrong one in the line 2 behind it.
var declRows = []row{
	// DeHeader: fields, how many, each one, all together.
	{"header z{a 8;}", 0}, {"header z{a 1;b 7;}", 0}, {"header z{a 128;}", 0}, {"header z{h 4;z 4;}", 0}, {"header z{port 8;out 8;}", 0}, {"header z{" + fieldsText(64) + "}", 0},
	{"header z{}", api.ErrArg}, {"header z{" + fieldsText(65) + "}", api.ErrLimit}, {"header z{a 0;" + fieldsText(64) + "}", api.ErrLimit}, {"header z{a 8;a 8;}", api.ErrName}, {"header z{a 8;b 8;a 8;}", api.ErrName}, {"header z{a 0;}", api.ErrArg}, {"header z{a 129;}", api.ErrArg}, {"header z{a 136;}", api.ErrArg},
	{"header z{a 7;}", api.ErrArg}, {"header z{a 1;b 8;}", api.ErrArg}, {"header z{a 8;a 0;}", api.ErrName}, {"header z{a 0;a 8;}", api.ErrArg}, {"header z{a 7;a 8;}", api.ErrName}, {"header z{a 8;b 0;a 8;}", api.ErrArg}, {"header z{a 8;a 8;b 0;}", api.ErrName},
	// DeRegister, DeCounter, DeMeter.
	{"register z 1 1;", 0}, {"register z 128 4096;", 0}, {"register z 0 1;", api.ErrArg}, {"register z 129 1;", api.ErrArg}, {"register z 1 0;", api.ErrArg}, {"register z 1 4097;", api.ErrArg}, {"register z 2147483647 2147483647;", api.ErrArg},
	{"counter z 1;", 0}, {"counter z 4096;", 0}, {"counter z 0;", api.ErrArg}, {"counter z 4097;", api.ErrArg},
	{"meter z 1 0 1;", 0}, {"meter z 4096 65535 65535;", 0}, {"meter z 0 1 1;", api.ErrArg}, {"meter z 4097 1 1;", api.ErrArg}, {"meter z 1 65536 1;", api.ErrArg}, {"meter z 1 1 0;", api.ErrArg}, {"meter z 1 1 65536;", api.ErrArg},
	// DeParser: names of states, the first one, each one.
	{"parser{start{go accept;}}", 0}, {"parser{s{go start;} start{go s;}}", 0}, {"parser{start{take h;take g;take h;select h.a{8w1:start;8w2&8wf:accept;8w1:reject;else s;}} s{go reject;}}", 0}, {"parser{start{select 1w1{else start;}}}", 0}, {"parser{start{go h;} h{go accept;}}", 0}, {"parser{start{select h.a++h.b{24w1&24w2:start;else start;}}}", 0},
	{"parser{}", api.ErrName}, {"parser{s{go accept;}}", api.ErrName}, {"parser{Start{go accept;}}", api.ErrName}, {"parser{start{go accept;} accept{go accept;}}", api.ErrName}, {"parser{start{go accept;} reject{go accept;}}", api.ErrName}, {"parser{start{go accept;} start{go accept;}}", api.ErrName}, {"parser{start{go accept;} s{go accept;} s{go accept;}}", api.ErrName},
	{"parser{start{take z;go accept;}}", api.ErrName}, {"parser{start{take h;take r;go accept;}}", api.ErrName}, {"parser{start{go z;}}", api.ErrName}, {"parser{start{go h;}}", api.ErrName}, {"parser{start{select 1w1{else z;}}}", api.ErrName}, {"parser{start{select 1w1{1w1:z;else start;}}}", api.ErrName}, {"parser{start{select 1w1{1w1:start;1w1:z;else start;}}}", api.ErrName}, {"parser{start{go accept;} s{go z;}}", api.ErrName},
	{"parser{start{select z{else start;}}}", api.ErrName}, {"parser{start{select p{else start;}}}", api.ErrName}, {"parser{start{select 8w1[8:0]{else start;}}}", api.ErrArg}, {"parser{start{select h.a{7w1:start;else start;}}}", api.ErrWidth}, {"parser{start{select h.a{8w1&7w1:start;else start;}}}", api.ErrWidth}, {"parser{start{select h.a{7w1&8w1:start;else start;}}}", api.ErrWidth}, {"parser{start{select h.a{7w1&7w1:start;else start;}}}", api.ErrWidth}, {"parser{start{select h.a{8w1:start;9w1:start;else start;}}}", api.ErrWidth},
	{"parser{start{take z;select 8w1[8:0]{else start;}}}", api.ErrName}, {"parser{start{select 8w1[8:0]{8w1:z;else start;}}}", api.ErrArg}, {"parser{start{select h.a{7w1:z;else start;}}}", api.ErrWidth}, {"parser{start{select h.a{8w1:z;7w1:start;else start;}}}", api.ErrName}, {"parser{start{select h.a{7w1:start;8w1:z;else start;}}}", api.ErrWidth}, {"parser{start{select h.a{7w1:start;else z;}}}", api.ErrWidth},
	{"parser{start{go z;} s{select 8w1[8:0]{else start;}}}", api.ErrName}, {"parser{start{select 8w1[8:0]{else start;}} s{go z;}}", api.ErrArg}, {"parser{start{select 8w1[8:0]{else start;}} start{go accept;}}", api.ErrName}, {"parser{s{select 8w1[8:0]{else s;}}}", api.ErrName},
	// DeAction: how many params, each one, the Body.
	{"action z(){}", 0}, {"action z(p 1,q 128){}", 0}, {"action z(h 8,z 8){h.a=h;h.a=z;}", 0}, {"action z(" + paramsText(64) + "){}", 0}, {"action z(port 8,out 8){h.a=port;meta.port=16w1;}", 0},
	{"action z(" + paramsText(65) + "){}", api.ErrLimit}, {"action z(a 0," + paramsText(64) + "){}", api.ErrLimit}, {"action z(p 8,p 8){}", api.ErrName}, {"action z(p 8,q 8,p 8){}", api.ErrName}, {"action z(p 0){}", api.ErrArg}, {"action z(p 129){}", api.ErrArg}, {"action z(p 8,p 0){}", api.ErrName}, {"action z(p 0,p 8){}", api.ErrArg}, {"action z(p 0){make z;}", api.ErrArg}, {"action z(p 8,p 8){h.a=9w1[9:0];}", api.ErrName},
	// DeTable: how many keys, each one, the actions, the default, its args, the size.
	{tableText("", "n", "n()", "1"), 0}, {tableText("h.a exact;", "n o", "n()", "4096"), 0}, {tableText("h.a prefix;", "o", "o(8w1,16w1)", "1"), 0}, {tableText("h.a mask;h.b range;h.a exact;meta.port prefix;h.a+8w1 mask;", "o n v", "v(8w0)", "1"), 0}, {tableText(strings.Repeat("h.a exact;", 64), "n", "n()", "1"), 0}, {tableText("128w1 prefix;h.a exact;", "n", "n()", "1"), 0},
	{tableText(strings.Repeat("h.a exact;", 65), "n", "n()", "1"), api.ErrLimit}, {tableText("z exact;"+strings.Repeat("h.a exact;", 64), "n", "n()", "1"), api.ErrLimit}, {tableText("z exact;", "n", "n()", "1"), api.ErrName}, {tableText("p exact;", "o", "o(8w1,16w1)", "1"), api.ErrName}, {tableText("h.a exact;h.z exact;", "n", "n()", "1"), api.ErrName}, {tableText("8w1[8:0] prefix;", "n", "n()", "1"), api.ErrArg},
	{tableText("h.a prefix;h.b prefix;", "n", "n()", "1"), api.ErrArg}, {tableText("h.a prefix;h.a exact;h.a prefix;", "n", "n()", "1"), api.ErrArg}, {tableText("h.a prefix;z prefix;", "n", "n()", "1"), api.ErrName}, {tableText("h.a prefix;h.a prefix;z exact;", "n", "n()", "1"), api.ErrArg}, {tableText("h.a prefix;h.a prefix;", "z", "z()", "1"), api.ErrArg},
	{tableText("", "x", "x()", "1"), api.ErrName}, {tableText("", "h", "h()", "1"), api.ErrName}, {tableText("", "t", "t()", "1"), api.ErrName}, {tableText("", "z", "z()", "1"), api.ErrName}, {tableText("", "n x", "n()", "1"), api.ErrName}, {tableText("", "n n", "n()", "1"), api.ErrName}, {tableText("", "n o n", "n()", "1"), api.ErrName}, {tableText("", "n", "o(8w1,16w1)", "1"), api.ErrName}, {tableText("", "n o", "x()", "1"), api.ErrName}, {tableText("", "n x", "n(8w1)", "1"), api.ErrName}, {tableText("", "n", "o(8w1)", "1"), api.ErrName},
	{tableText("", "n", "n(8w1)", "1"), api.ErrArg}, {tableText("", "o", "o()", "1"), api.ErrArg}, {tableText("", "o", "o(8w1)", "1"), api.ErrArg}, {tableText("", "o", "o(8w1,16w1,8w1)", "1"), api.ErrArg}, {tableText("", "o", "o(7w1)", "1"), api.ErrArg}, {tableText("", "o", "o(7w1,16w1)", "1"), api.ErrWidth}, {tableText("", "o", "o(8w1,17w1)", "1"), api.ErrWidth}, {tableText("", "o", "o(16w1,8w1)", "1"), api.ErrWidth}, {tableText("", "o", "o(7w1,16w1)", "0"), api.ErrWidth}, {tableText("", "o n", "n(8w1,16w1)", "1"), api.ErrArg},
	{tableText("", "n", "n()", "0"), api.ErrArg}, {tableText("", "n", "n()", "4097"), api.ErrArg}, {tableText("", "n", "x()", "0"), api.ErrName}, {tableText("", "n", "n()", "2147483647"), api.ErrArg},
	// DeDeparser.
	{"deparser{}", 0}, {"deparser{h;}", 0}, {"deparser{g;h;}", 0}, {"deparser{z;}", api.ErrName}, {"deparser{r;}", api.ErrName}, {"deparser{h;h;}", api.ErrName}, {"deparser{h;g;h;}", api.ErrName}, {"deparser{h;z;}", api.ErrName},
	// DeControl.
	{"control{}", 0}, {"control{h.a=p;}", api.ErrName},
	// Names that are declared ahead, of whatever kind; names of fields, params and states are others.
	{"header h{a 8;}", api.ErrName}, {"header r{a 8;}", api.ErrName}, {"register h 8 1;", api.ErrName}, {"register k 8 1;", api.ErrName}, {"counter y 1;", api.ErrName}, {"counter n 1;", api.ErrName}, {"meter t 1 1 1;", api.ErrName}, {"meter g 1 1 1;", api.ErrName}, {"action t(){}", api.ErrName}, {"action h(){}", api.ErrName}, {"action o(){}", api.ErrName}, {strings.Replace(tableText("", "n", "n()", "1"), "z", "n", 1), api.ErrName}, {strings.Replace(tableText("", "n", "n()", "1"), "z", "t", 1), api.ErrName}, {strings.Replace(tableText("", "n", "n()", "1"), "z", "u", 1), api.ErrName},
	{"counter a 1;", 0}, {"action p(){}", 0}, {"header start{a 8;}", 0}, {"header accept{a 8;}", 0}, {"register port 8 1;", 0}, {"action crc16(){}", 0}, {"counter m 1;", 0}, {"header h{}", api.ErrName}, {"counter h 0;", api.ErrName},
	{"meta{}", api.ErrName},
}

func fieldsText(n int) string {
	s := "f0 8;"
	for i := 1; i < n; i++ {
		s += "f" + strings.Repeat("x", i) + " 8;"
	}
	return s
}

func paramsText(n int) string {
	return strings.TrimSuffix(strings.ReplaceAll(fieldsText(n), ";", ","), ",")
}

func tableText(keys, actions, call, size string) string {
	return "table z{key{" + keys + "} actions " + actions + "; default " + call + "; size " + size + ";}"
}

func TestDeclarations(t *testing.T) { // P10.1
	for _, c := range declRows {
		checks(t, base+"\n"+c.s, lineOf(2, c.want), c.want)
	}
}

// TestMeta: a program has one, or none.
func TestMeta(t *testing.T) { // P10.1
	for _, c := range []row{
		{"meta{}", 0}, {"meta{a 1;b 128;}", 0}, {"meta{a 7;}", 0}, {"meta{" + fieldsText(64) + "}", 0},
		{"meta{" + fieldsText(65) + "}", api.ErrLimit}, {"meta{port 16;" + fieldsText(64) + "}", api.ErrLimit}, {"meta{port 16;}", api.ErrName}, {"meta{a 8;out 16;}", api.ErrName}, {"meta{a 8;a 8;}", api.ErrName}, {"meta{a 0;}", api.ErrArg}, {"meta{a 129;}", api.ErrArg}, {"meta{a 0;port 8;}", api.ErrArg}, {"meta{port 0;a 0;}", api.ErrName}, {"meta{a 8;b 0;a 8;}", api.ErrArg}, {"meta{a 8;a 0;}", api.ErrName},
	} {
		checks(t, "\n"+c.s, lineOf(1, c.want), c.want)
		checks(t, "control{}\n\n"+c.s+"\ncounter k 1;", lineOf(2, c.want), c.want)
	}
	checks(t, "control{meta.port=16w1;meta.out=16w1;}", 0, api.OK)
	checks(t, "control{\nmeta.m=16w1;}", 1, api.ErrName)
	checks(t, "control{\nmeta.m=16w1;}meta{m 16;}", 0, api.OK)
}

// TestSecondOnes: of what a program has once.
func TestSecondOnes(t *testing.T) { // P10.1
	ones := []string{"meta{}", "parser{start{go accept;}}", "control{}", "deparser{}"}
	for i, a := range ones {
		for j, b := range ones {
			want := api.OK
			if i == j {
				want = api.ErrName
			}
			checks(t, a+"\n"+b, lineOf(1, want), want)
			checks(t, a+"counter k 1;\n\n"+b+"\ncounter j 1;", lineOf(2, want), want)
		}
	}
	checks(t, "control{}\ncontrol{make z;}", 1, api.ErrName)
	// What is declared is looked at ahead of what is in it.
	checks(t, "control{clone 16;}\n\ncontrol{}", 2, api.ErrName)
	checks(t, "header h{}\ncounter k 1;\ncounter k 1;", 2, api.ErrName)
	checks(t, "counter k 0;\ncounter k 0;", 1, api.ErrName)
	checks(t, "counter k 1;\ncontrol{}\ncounter k 1;\ncontrol{}", 2, api.ErrName)
	checks(t, "counter k 1;\ncontrol{}\ncontrol{}\ncounter k 1;", 2, api.ErrName)
}

// TestLines: each error has the line of the innermost expression, statement or state of which it is one, else its declaration's.
func TestLines(t *testing.T) { // P10.1
	for _, c := range []struct {
		s    string // behind base: its first line is 1
		line int
		want api.Errno
	}{
		{"header\nz\n{\na\n7;}", 1, api.ErrArg}, {"header\nz\n{\na\n8;a\n8;}", 1, api.ErrName}, {"register\nz\n0\n1;", 1, api.ErrArg}, {"action z\n(p\n0){}", 1, api.ErrArg},
		{"parser{\nstart{go accept;}\ns{go accept;}\ns{go accept;}}", 4, api.ErrName}, {"parser{\nstart{go accept;}\naccept{go accept;}}", 3, api.ErrName}, {"parser{\n\ns{go accept;}}", 1, api.ErrName}, {"\nparser\n{}", 2, api.ErrName},
		{"parser{\nstart{\ntake\nz;\ngo accept;}}", 2, api.ErrName}, {"parser{\nstart{\nselect\nh.a\n{8w1:start;\n8w1\n:z;else start;}}}", 2, api.ErrName}, {"parser{\nstart{\nselect\nh.a\n{8w1:start;\n7w1\n:start;else start;}}}", 2, api.ErrWidth}, {"parser{\nstart{go s;}\ns{\nselect\n1w1\n{else\nz;}}}", 3, api.ErrName}, {"parser{\nstart{\ngo\nz;}}", 2, api.ErrName},
		{"parser{\nstart{\nselect\nz{else start;}}}", 4, api.ErrName}, {"parser{\nstart{\nselect\n8w1+\n7w1{else start;}}}", 4, api.ErrWidth},
		{"table z{\nkey{\nz exact;}actions n;default n();size 1;}", 3, api.ErrName}, {"table z{\nkey{\nh.a prefix;\nh.b prefix;}actions n;default n();size 1;}", 1, api.ErrArg}, {"table z{key{}\nactions\nn\nx;default n();size 1;}", 1, api.ErrName}, {"table z{key{}\nactions n;\ndefault\nx();size 1;}", 1, api.ErrName}, {"table z{key{}\nactions n;\ndefault\nn(\n8w1);size 1;}", 1, api.ErrArg}, {"table z{key{}\nactions o;\ndefault\no(\n8w1,\n8w1);size 1;}", 1, api.ErrWidth}, {"table z{key{}\nactions n;\ndefault n();\nsize\n0;}", 1, api.ErrArg},
		{"deparser{\nh;\nz;}", 1, api.ErrName}, {"deparser{\nh;\nh;}", 1, api.ErrName},
		{"control{\nh\n.\nz=8w1;}", 2, api.ErrName}, {"control{\nh.a\n=\n7w1;}", 2, api.ErrWidth}, {"control{\nh.a\n=\n7w1\n+\n8w1;}", 4, api.ErrWidth}, {"control{\nh.a\n=\n(\n7w1\n+\nz);}", 7, api.ErrName}, {"control{\nh.a=8w1\n+\ncast\n0\n(8w1);}", 4, api.ErrArg}, {"control{\nh.a\n=\n~8w1\n[8:0];}", 4, api.ErrArg},
		{"control{\nif\n2w1{}}", 2, api.ErrWidth}, {"control{\nif\nz{}}", 3, api.ErrName}, {"control{\nif\n1w1{\nmake\nz;}}", 4, api.ErrName}, {"control{if 1w1{\ndrop;}else{\ndrop;\nclone 16;}}", 4, api.ErrArg},
		{"control{apply t;\nif 1w1{\napply\nt;}}", 3, api.ErrArg}, {"control{\no(\n8w1,\n8w1);}", 2, api.ErrWidth}, {"control{\no(\n8w1,\nz);}", 4, api.ErrName}, {"control{\nz(\n);}", 2, api.ErrName}, {"control{\no(\n8w1);}", 2, api.ErrArg},
		{"control{\ncount\nz[\n8w1];}", 2, api.ErrName}, {"control{\ncount\nk[\nz];}", 4, api.ErrName}, {"control{\nread\nh.a\n=\nr[8w1];}", 2, api.ErrWidth}, {"control{\nread\nh.b\n=\nz[8w1];}", 2, api.ErrName}, {"control{\nread\nh.b\n=\nr[\nz];}", 6, api.ErrName}, {"control{\nmeter\nh.a\n=\ny[8w1];}", 2, api.ErrWidth}, {"control{\nmeter\ng.d\n=\nz[8w1];}", 2, api.ErrName},
		{"control{\nwrite\nz[\n8w1]=\n16w1;}", 2, api.ErrName}, {"control{\nwrite\nr[\nz]=\n16w1;}", 4, api.ErrName}, {"control{\nwrite\nr[\n8w1]=\nz;}", 5, api.ErrName}, {"control{\nwrite\nr[\n8w1]=\n8w1;}", 2, api.ErrWidth}, {"control{\nrandom\nz.a;}", 2, api.ErrName},
		{"control{\ndigest\n8w1,\n8w1,\nz;}", 5, api.ErrName}, {"control{\ndigest\n8w1" + strings.Repeat(",\n8w1", 64) + ";}", 2, api.ErrLimit}, {"control{\ndigest\nhash\ncrc16(8w1" + strings.Repeat(",\n8w1", 64) + ");}", 3, api.ErrLimit}, {"control{\ndigest\nhash\nz(8w1);}", 3, api.ErrName}, {"control{\ndigest\nvalid\nz;}", 3, api.ErrName}, {"control{\nclone\n16;}", 2, api.ErrArg},
		{"action\nz(){\napply\nt;}", 3, api.ErrArg}, {"action\nz(){drop;\nn(\n);}", 3, api.ErrArg}, {"action z(p 8){\nh.b=\np;}", 2, api.ErrWidth}, {"action z(p 8){\nh.b=\nq;}", 3, api.ErrName},
	} {
		checks(t, base+c.s, c.line, c.want)
	}
}

// TestAnyLines: a tree's lines are told as they are, whatever they are.
func TestAnyLines(t *testing.T) { // P10.1, R2
	for _, line := range []int{0, -1, 7, -1 << 63, 1<<63 - 1} {
		for _, p := range []api.Program{
			{{Kind: api.DeCounter, Name: "k", Line: line}},
			{{Kind: api.DeControl, Body: []api.Stmt{{Kind: api.StClone, N: 16, Line: line}}, Line: 3}},
			{{Kind: api.DeControl, Body: []api.Stmt{{Kind: api.StDigest, Args: []api.Expr{{Op: api.OpParam, Name: "z", Line: line}}, Line: 4}}, Line: 3}},
			{{Kind: api.DeParser, States: []api.State{{Name: "start", To: "z", Line: line}}, Line: 3}},
		} {
			if n, e := types.Check(p); n != line || e == api.OK {
				t.Errorf("Check(%+v) = %d, %d", p, n, e)
			}
		}
		fine := api.Program{{Kind: api.DeCounter, Name: "k", N: 1, Line: line}}
		if n, e := types.Check(fine); n != 0 || e != api.OK {
			t.Errorf("Check(%+v) = %d, %d", fine, n, e)
		}
		widthIs(t, fine, nil, api.Expr{Op: api.OpLit, Lit: api.Bits{W: 7}, Line: line}, 7, api.OK)
		widthIs(t, fine, nil, api.Expr{Op: api.OpParam, Name: "z", Line: line}, 0, api.ErrName)
	}
}

// TestDeclaredBehind: what is named may stand behind; an error of what is named comes in its turn.
func TestDeclaredBehind(t *testing.T) { // P10.1, P10.3
	for _, c := range []struct {
		s    string
		line int
		want api.Errno
	}{
		{"control{\nmeta.port=8w1;}\nmeta{port 8;}", 1, api.ErrWidth}, {"control{\nmeta.port=16w1;}\nmeta{port 8;}", 2, api.ErrName},
		{"control{\nh.a=8w1;}\nheader h{a 8;a 16;}", 2, api.ErrName}, {"control{\nh.a=16w1;}\nheader h{a 8;a 16;}", 1, api.ErrWidth},
		{"control{\nh.a=1w1;}\nheader h{a 0;}", 1, api.ErrWidth}, {"control{\nh.a=h.a;}\nheader h{a 0;}", 2, api.ErrArg}, {"control{\nh.a=h.a++h.a;}\nheader h{a 0;}", 2, api.ErrArg}, {"control{\nh.a=h.a[0:0];}\nheader h{a 0;}", 1, api.ErrArg},
		{"control{\nh.a=h.a+h.a;}\nheader h{a 136;}", 2, api.ErrArg}, {"control{\nh.b=h.a[135:0];}\nheader h{a 136;b 136;}", 2, api.ErrArg}, {"control{\nh.a=h.a++8w1;}\nheader h{a 136;}", 1, api.ErrWidth}, {"control{\nh.a=h.a++h.a;}\nheader h{a 2147483647;}", 1, api.ErrWidth}, {"control{\nh.a=h.a[2147483646:0];}\nheader h{a 2147483647;}", 2, api.ErrArg},
		{"control{\nread h.a=r[8w1];}\nheader h{a 200;}\nregister r 200 1;", 2, api.ErrArg}, {"control{\nread h.a=r[8w1];}\nheader h{a 8;}\nregister r 200 1;", 1, api.ErrWidth}, {"header h{a 8;}\ncontrol{write r[8w1]=h.a;}\nregister r 8 0;", 2, api.ErrArg},
		{"control{\nf(8w1);}\naction f(p 8,p 8){}", 1, api.ErrArg}, {"control{\nf(8w1,7w1);}\naction f(p 8,p 8){}", 1, api.ErrWidth}, {"control{\nf(8w1,8w1);}\naction f(p 8,p 8){}", 2, api.ErrName}, {"control{\nf(8w1);}\naction f(p 0){}", 1, api.ErrWidth},
		{"table t{key{} actions f; default f(8w1); size 1;}\naction f(p 0){}", 0, api.ErrWidth}, {"table t{key{} actions f; default f(8w1,9w1); size 1;}\naction f(p 8,p 9){}", 1, api.ErrName},
		{"control{apply t;}\ntable t{key{} actions f; default f(); size 0;}\naction f(p 8){}", 1, api.ErrArg},
		{"control{make h;}\nheader h{}", 1, api.ErrArg}, {"control{make h;\nh.a=8w1;}\nheader h{}", 1, api.ErrName}, {"deparser{h;}\nheader h{a 1;}", 1, api.ErrArg},
	} {
		checks(t, c.s, c.line, c.want)
	}
}

func TestManyAtOnce(t *testing.T) { // R5
	p := parsed(t, base+"control{h.a=8w1;}")
	var group sync.WaitGroup
	for range 16 {
		group.Go(func() {
			for range 20 {
				if n, e := types.Check(p); n != 0 || e != api.OK {
					t.Errorf("Check = %d, %d", n, e)
				}
				widthIs(t, p, nil, exprOf(t, "h.a ++ h.b"), 24, api.OK)
			}
		})
	}
	group.Wait()
}

func BenchmarkCheck(b *testing.B) {
	p, _, _ := parse.Parse(base + "control{h.a=8w1;}")
	for b.Loop() {
		types.Check(p)
	}
}
