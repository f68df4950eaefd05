package parse_test

import (
	"reflect"
	"slices"
	"strconv"
	"strings"
	"testing"

	"pointsman/api"
	"pointsman/lex"
	"pointsman/parse"
)

func num(w int, lo uint64) api.Bits { return api.Bits{W: w, Lo: lo} }

func lit(w int, lo uint64) api.Expr { return api.Expr{Op: api.OpLit, Lit: num(w, lo)} }

func field(name, field string) api.Expr { return api.Expr{Op: api.OpField, Name: name, Field: field} }

func param(name string) api.Expr { return api.Expr{Op: api.OpParam, Name: name} }

func of(op api.Op, args ...api.Expr) api.Expr { return api.Expr{Op: op, Args: args} }

func at(line int, x api.Expr) api.Expr {
	x.Line = line
	return x
}

func list[T any](l ...T) []T { return l }

// is asks for the one declaration of a text.
func is(t *testing.T, s string, want api.Decl) {
	t.Helper()
	has(t, s, api.Program{want})
}

// fails asks for no program, a line and an error.
func fails(t *testing.T, s string, line int, e api.Errno) {
	t.Helper()
	if p, n, got := parse.Parse(s); len(p) != 0 || n != line || got != e {
		t.Errorf("Parse(%.200q) = %.200s, %d, %d, want %d, %d", s, told(p), n, got, line, e)
	}
}

// exprOf is the expression of a text, as it stands in a digest.
func exprOf(t *testing.T, s string) api.Expr {
	t.Helper()
	p, line, e := parse.Parse("control{digest " + s + ";}")
	if len(p) != 1 || len(p[0].Body) != 1 || len(p[0].Body[0].Args) != 1 || line != 0 || e != api.OK {
		t.Fatalf("the expression %.200q: %.200s, %d, %d", s, told(p), line, e)
	}
	return p[0].Body[0].Args[0]
}

func exprIs(t *testing.T, s string, want api.Expr) {
	t.Helper()
	if x := exprOf(t, s); !reflect.DeepEqual(x, want) {
		t.Errorf("the expression %q is\n%+v\nwant\n%+v", s, x, want)
	}
}

func TestDeclarations(t *testing.T) { // P8.1
	for _, s := range []string{"", " ", "\n\n", "// header h", "//\n\t"} {
		has(t, s, nil)
	}
	is(t, "header h { a 8; b 16; }", api.Decl{Kind: api.DeHeader, Name: "h", Fields: list(api.Field{Name: "a", W: 8}, api.Field{Name: "b", W: 16})})
	is(t, "header h{}", api.Decl{Kind: api.DeHeader, Name: "h"})
	is(t, "meta { a 0; a 2147483647; }", api.Decl{Kind: api.DeMeta, Fields: list(api.Field{Name: "a"}, api.Field{Name: "a", W: 2147483647})})
	is(t, "meta{}", api.Decl{Kind: api.DeMeta})
	is(t, "register r 8 16;", api.Decl{Kind: api.DeRegister, Name: "r", W: 8, N: 16})
	is(t, "counter c 5;", api.Decl{Kind: api.DeCounter, Name: "c", N: 5})
	is(t, "meter m 1 2 3;", api.Decl{Kind: api.DeMeter, Name: "m", N: 1, Rate: 2, Burst: 3})
	is(t, "parser{}", api.Decl{Kind: api.DeParser})
	is(t, "action f(p 8) { h.a = ~p[3:0] ++ cast 4(h.b) + 8w1; }", api.Decl{Kind: api.DeAction, Name: "f", Fields: list(api.Field{Name: "p", W: 8}),
		Body: list(api.Stmt{Kind: api.StSet, Name: "h", Field: "a", Args: list(of(api.OpAdd,
			of(api.OpCat, of(api.OpNot, api.Expr{Op: api.OpSlice, N: 3, Args: list(param("p"))}), api.Expr{Op: api.OpCast, N: 4, Args: list(field("h", "b"))}),
			lit(8, 1)))})})
	is(t, "action f(p 8, q 1){}", api.Decl{Kind: api.DeAction, Name: "f", Fields: list(api.Field{Name: "p", W: 8}, api.Field{Name: "q", W: 1})})
	is(t, "action f(){}", api.Decl{Kind: api.DeAction, Name: "f"})
	is(t, "table t { key { h.a exact; meta.m prefix; a mask; b range; } actions f g; default g(8w1, 1w0); size 4; }",
		api.Decl{Kind: api.DeTable, Name: "t", Keys: list(api.Key{Expr: field("h", "a"), Kind: api.KeExact}, api.Key{Expr: field("meta", "m"), Kind: api.KePrefix},
			api.Key{Expr: param("a"), Kind: api.KeMask}, api.Key{Expr: param("b"), Kind: api.KeRange}),
			Actions: list("f", "g"), Default: "g", Args: list(num(8, 1), num(1, 0)), N: 4})
	is(t, "table t{key{}actions f;default g();size 0;}", api.Decl{Kind: api.DeTable, Name: "t", Actions: list("f"), Default: "g"})
	is(t, "control{}", api.Decl{Kind: api.DeControl})
	is(t, "deparser{h;h;e;}", api.Decl{Kind: api.DeDeparser, Emits: list("h", "h", "e")})
	is(t, "deparser{}", api.Decl{Kind: api.DeDeparser})
	has(t, "control{}counter c 1;\ncontrol{}", api.Program{{Kind: api.DeControl}, {Kind: api.DeCounter, Name: "c", N: 1}, {Kind: api.DeControl, Line: 1}})
}

func TestStates(t *testing.T) { // P8.1
	is(t, "parser { start { take h; select h.a { 8w1: x; 8w0 & 8wf: accept; else reject; } } }", api.Decl{Kind: api.DeParser, States: list(
		api.State{Name: "start", Headers: list("h"), Select: list(field("h", "a")), To: "reject",
			Cases: list(api.Case{Value: num(8, 1), Mask: num(8, 255), To: "x"}, api.Case{Value: num(8, 0), Mask: num(8, 15), To: "accept"})})})
	is(t, "parser{s{go t;}\nt{take h;take h;go t;}\nu{select 8w1{else s;}}}", api.Decl{Kind: api.DeParser, States: list(
		api.State{Name: "s", To: "t"}, api.State{Name: "t", Headers: list("h", "h"), To: "t", Line: 1}, api.State{Name: "u", Select: list(at(2, lit(8, 1))), To: "s", Line: 2})})
	// The Mask need not be as wide as the Value.
	is(t, "parser{s{select a{8w1&4w2:b;else c;}}}", api.Decl{Kind: api.DeParser, States: list(
		api.State{Name: "s", Select: list(param("a")), Cases: list(api.Case{Value: num(8, 1), Mask: num(4, 2), To: "b"}), To: "c"})})
	for w := 1; w <= api.MaxWidth; w++ {
		is(t, "parser{s{select a{"+strconv.Itoa(w)+"w1:b;else c;}}}", api.Decl{Kind: api.DeParser, States: list(
			api.State{Name: "s", Select: list(param("a")), Cases: list(api.Case{Value: num(w, 1), Mask: ones(w), To: "b"}), To: "c"})})
	}
}

func TestStatements(t *testing.T) { // P8.1
	is(t, "control { if valid h && h.a == 8w1 { apply t; } else { } drop; }", api.Decl{Kind: api.DeControl, Body: list(
		api.Stmt{Kind: api.StIf, Args: list(of(api.OpBoth, api.Expr{Op: api.OpValid, Name: "h"}, of(api.OpEq, field("h", "a"), lit(8, 1)))), Body: list(api.Stmt{Kind: api.StApply, Name: "t"})},
		api.Stmt{Kind: api.StDrop})})
	one := list(lit(8, 1))
	for s, want := range map[string]api.Stmt{
		"h.a = 8w1;":             {Kind: api.StSet, Name: "h", Field: "a", Args: one},
		"meta.a = 8w1;":          {Kind: api.StSet, Name: "meta", Field: "a", Args: one},
		"if a { }":               {Kind: api.StIf, Args: list(param("a"))},
		"if a {drop;}":           {Kind: api.StIf, Args: list(param("a")), Body: list(api.Stmt{Kind: api.StDrop})},
		"if a {}else{drop;}":     {Kind: api.StIf, Args: list(param("a")), Else: list(api.Stmt{Kind: api.StDrop})},
		"if a {drop;}else{}":     {Kind: api.StIf, Args: list(param("a")), Body: list(api.Stmt{Kind: api.StDrop})},
		"apply t;":               {Kind: api.StApply, Name: "t"},
		"f();":                   {Kind: api.StCall, Name: "f"},
		"f(8w1);":                {Kind: api.StCall, Name: "f", Args: one},
		"f(a, b, (c));":          {Kind: api.StCall, Name: "f", Args: list(param("a"), param("b"), param("c"))},
		"make h;":                {Kind: api.StMake, Name: "h"},
		"gone h;":                {Kind: api.StGone, Name: "h"},
		"count c[8w1];":          {Kind: api.StCount, Name: "c", Args: one},
		"read h.a = r[8w1];":     {Kind: api.StRead, Name: "h", Field: "a", Array: "r", Args: one},
		"read meta.a = r[8w1];":  {Kind: api.StRead, Name: "meta", Field: "a", Array: "r", Args: one},
		"write r[8w1] = 8w2;":    {Kind: api.StWrite, Array: "r", Args: list(lit(8, 1), lit(8, 2))},
		"meter h.a = m[8w1];":    {Kind: api.StMeter, Name: "h", Field: "a", Array: "m", Args: one},
		"meter meta.a = m[8w1];": {Kind: api.StMeter, Name: "meta", Field: "a", Array: "m", Args: one},
		"random h.a;":            {Kind: api.StRandom, Name: "h", Field: "a"},
		"random meta.a;":         {Kind: api.StRandom, Name: "meta", Field: "a"},
		"drop;":                  {Kind: api.StDrop},
		"again;":                 {Kind: api.StAgain},
		"round;":                 {Kind: api.StRound},
		"digest 8w1;":            {Kind: api.StDigest, Args: one},
		"digest a, b;":           {Kind: api.StDigest, Args: list(param("a"), param("b"))},
		"clone 0;":               {Kind: api.StClone},
		"clone 2147483647;":      {Kind: api.StClone, N: 2147483647},
	} {
		is(t, "control {"+s+"}", api.Decl{Kind: api.DeControl, Body: list(want)})
		is(t, "action f() {"+s+"drop;}", api.Decl{Kind: api.DeAction, Name: "f", Body: list(want, api.Stmt{Kind: api.StDrop})})
		is(t, "control {if a {"+s+"} else {"+s+s+"}}", api.Decl{Kind: api.DeControl, Body: list(api.Stmt{Kind: api.StIf, Args: list(param("a")), Body: list(want), Else: list(want, want)})})
	}
}

func TestExpressions(t *testing.T) { // P8.1
	a, b, c := param("a"), param("b"), param("c")
	exprIs(t, "128w10000000000000002", api.Expr{Op: api.OpLit, Lit: api.Bits{W: 128, Hi: 1, Lo: 2}})
	exprIs(t, "a", a)
	exprIs(t, "h.a", field("h", "a"))
	exprIs(t, "meta.port", field("meta", "port"))
	exprIs(t, "valid h", api.Expr{Op: api.OpValid, Name: "h"})
	exprIs(t, "cast 16(a)", api.Expr{Op: api.OpCast, N: 16, Args: list(a)})
	exprIs(t, "hash crc16(a)", api.Expr{Op: api.OpHash, Name: "crc16", Args: list(a)})
	exprIs(t, "hash a(a, b, c)", api.Expr{Op: api.OpHash, Name: "a", Args: list(a, b, c)})
	exprIs(t, "a[7:0]", api.Expr{Op: api.OpSlice, N: 7, Args: list(a)})
	exprIs(t, "h.a[0:7]", api.Expr{Op: api.OpSlice, M: 7, Args: list(field("h", "a"))})
	exprIs(t, "a[3:2][1:0]", api.Expr{Op: api.OpSlice, N: 1, Args: list(api.Expr{Op: api.OpSlice, N: 3, M: 2, Args: list(a)})})
	exprIs(t, "valid h[0:0]", api.Expr{Op: api.OpSlice, Args: list(api.Expr{Op: api.OpValid, Name: "h"})})
	exprIs(t, "~a", of(api.OpNot, a))
	exprIs(t, "~~a", of(api.OpNot, of(api.OpNot, a)))
	exprIs(t, "~a[1:0]", of(api.OpNot, api.Expr{Op: api.OpSlice, N: 1, Args: list(a)}))
	exprIs(t, "(~a)[1:0]", api.Expr{Op: api.OpSlice, N: 1, Args: list(of(api.OpNot, a))})
	exprIs(t, "~a<<b", of(api.OpShl, of(api.OpNot, a), b))
	exprIs(t, "a<<~b", of(api.OpShl, a, of(api.OpNot, b)))
	exprIs(t, "a-b-c", of(api.OpSub, of(api.OpSub, a, b), c))
	exprIs(t, "a-(b-c)", of(api.OpSub, a, of(api.OpSub, b, c)))
	exprIs(t, "a<<b>>c", of(api.OpShr, of(api.OpShl, a, b), c))
	exprIs(t, "a&b|c", of(api.OpOr, of(api.OpAnd, a, b), c))
	exprIs(t, "a|b&c", of(api.OpAnd, of(api.OpOr, a, b), c))
	exprIs(t, "(a==b)==c", of(api.OpEq, of(api.OpEq, a, b), c))
	exprIs(t, "a==(b==c)", of(api.OpEq, a, of(api.OpEq, b, c)))
	exprIs(t, "a==b&&b==c||a<c", of(api.OpAny, of(api.OpBoth, of(api.OpEq, a, b), of(api.OpEq, b, c)), of(api.OpLt, a, c)))
}

// TestTwoOperations: of any two that stand behind one another, which one holds the middle.
func TestTwoOperations(t *testing.T) { // P8.1
	a, b, c := param("a"), param("b"), param("c")
	for i, first := range levels {
		for _, x := range first {
			exprIs(t, "a "+x.sign+" b", of(x.op, a, b))
			for j, second := range levels {
				for _, y := range second {
					s := "a " + x.sign + " b " + y.sign + " c"
					switch {
					case i < j:
						exprIs(t, s, of(x.op, a, of(y.op, b, c)))
					case i == j && i == 2:
						fails(t, "control{\ndigest "+strings.Replace(s, " "+y.sign+" c", "\n"+y.sign+" c", 1)+";}", 2, api.ErrSyntax)
					default:
						exprIs(t, s, of(y.op, of(x.op, a, b), c))
					}
				}
			}
		}
	}
}

// TestCompared: no comparison of comparisons, whatever stands around it.
func TestCompared(t *testing.T) { // P8.1
	for _, s := range []string{"a == b\n== c", "x && a == b\n!= c", "x || a < b\n<= c", "x || y && a == b + d\n< c", "a + b == c\n== d", "a == b & c\n== d", "a == b && c == d\n== e", "~a == b[1:0]\n== d", "(a == b) == c\n== d", "hash h(a, a == b\n== c)"} {
		fails(t, "control{digest "+s+";}", 1, api.ErrSyntax)
		fails(t, "table t{key{"+s+" exact;}actions a;default a();size 1;}", 1, api.ErrSyntax)
	}
}

func TestLines(t *testing.T) { // P8.1
	a, b, c := param("a"), param("b"), param("c")
	for s, want := range map[string]api.Expr{
		"(\na)":               at(1, a),
		"(\n(\n\n(a)))":       at(3, a),
		"\na\n+\nb":           at(1, of(api.OpAdd, at(1, a), at(3, b))),
		"(\na)\n+b":           of(api.OpAdd, at(1, a), at(2, b)),
		"(\na\n+b)":           at(1, of(api.OpAdd, at(1, a), at(2, b))),
		"(\n(\na)+b)":         at(1, of(api.OpAdd, at(2, a), at(2, b))),
		"(\na+\nb)+\nc":       of(api.OpAdd, at(1, of(api.OpAdd, at(1, a), at(2, b))), at(3, c)),
		"a+\n(\nb)+\nc":       of(api.OpAdd, of(api.OpAdd, a, at(2, b)), at(3, c)),
		"a+\n(b)*\nc":         of(api.OpAdd, a, at(1, of(api.OpMul, at(1, b), at(2, c)))),
		"(\na)\n[1\n:0]":      {Op: api.OpSlice, N: 1, Args: list(at(1, a))},
		"((\na))[1:0]\n[3:2]": {Op: api.OpSlice, N: 3, M: 2, Args: list(api.Expr{Op: api.OpSlice, N: 1, Args: list(at(1, a))})},
		"((\na)[1:0])":        {Op: api.OpSlice, N: 1, Args: list(at(1, a))},
		"~\n(\na)":            of(api.OpNot, at(2, a)),
		"(\n~\n~a)":           at(1, of(api.OpNot, at(2, of(api.OpNot, at(2, a))))),
		"h\n.\na":             field("h", "a"),
		"\nmeta\n.\na":        at(1, field("meta", "a")),
		"\nvalid\nh":          at(1, api.Expr{Op: api.OpValid, Name: "h"}),
		"\ncast\n1\n(\na)":    at(1, api.Expr{Op: api.OpCast, N: 1, Args: list(at(4, a))}),
		"hash\nx(\na\n,b)":    {Op: api.OpHash, Name: "x", Args: list(at(2, a), at(3, b))},
		"\n8w1":               at(1, lit(8, 1)),
	} {
		exprIs(t, s, want)
	}
	has(t, "\nheader\nh{\na 1;}\n\ncontrol\n{\nif\na{drop;\ndrop\n;}else{\nh\n.a=\nb;}}", api.Program{
		{Kind: api.DeHeader, Name: "h", Fields: list(api.Field{Name: "a", W: 1}), Line: 1},
		{Kind: api.DeControl, Line: 5, Body: list(api.Stmt{Kind: api.StIf, Line: 7, Args: list(at(8, a)),
			Body: list(api.Stmt{Kind: api.StDrop, Line: 8}, api.Stmt{Kind: api.StDrop, Line: 9}),
			Else: list(api.Stmt{Kind: api.StSet, Name: "h", Field: "a", Args: list(at(13, b)), Line: 11})})},
	})
	has(t, "parser{\ns\n{take\nh;select\na{8w1\n:b;else\nc;}}}", api.Program{{Kind: api.DeParser, States: list(
		api.State{Name: "s", Headers: list("h"), Select: list(at(4, a)), Cases: list(api.Case{Value: num(8, 1), Mask: num(8, 255), To: "b"}), To: "c", Line: 1})}})
}

func TestNoPrograms(t *testing.T) { // P8.1
	for _, s := range []string{"control { a == b == c; }", "header if { }", "control { drop }", "control { meta.x = 8; }", "register r 8;", "}", ";", "a", "5", "8w1", "header", "control { } }",
		"header h { a 8w1; }", "header h { a; }", "meta m { }", "counter c 8w1;", "meter m 1 2;", "parser { s { } }", "parser { s { go a; take h; } }", "parser { s { select a { 8: b; else c; } } }", "parser { s { select a { } } }",
		"action a { }", "action a(p) { }", "action a(p 8,) { }", "table t { }", "table t { key { } actions; default a(); size 1; }", "table t { key { a; } actions a; default a(); size 1; }", "table t { key { } actions a; default a; size 1; }",
		"table t { key { } actions a, b; default a(); size 1; }", "table t { key { } actions a; default a(1); size 1; }", "table t { key { } actions a; default a(b); size 1; }", "table t { key { } actions a; default a(); }",
		"control { ; }", "control { { } }", "control { h.a; }", "control { a = b; }", "control { meta(); }", "control { f(,); }", "control { f(a,); }", "control { f(a b); }", "control { if { } }", "control { if a drop; }", "control { else { } }",
		"control { if a { } else if b { } }", "control { count c; }", "control { read a = r[b]; }", "control { write r = a; }", "control { random a; }", "control { digest; }", "control { digest a,; }", "control { clone 8w1; }", "control { apply t }",
		"control { digest (); }", "control { digest hash h(); }", "control { digest cast (a); }", "control { digest cast 8w1(a); }", "control { digest a[1]; }", "control { digest a[b:0]; }", "control { digest meta; }", "control { digest a.b.c; }",
		"control { digest 1; }", "control { digest a~; }", "control { digest a ++ + b; }", "control { digest valid (h); }", "control { digest valid h.a; }", "control { digest valid meta; }", "deparser { h }", "deparser { meta; }", "control { read meta.m = meta[a]; }"} {
		fails(t, s, 0, api.ErrSyntax)
		fails(t, "counter c 1;\n"+s, 1, api.ErrSyntax)
		fails(t, s+"\n$", 1, api.ErrWord)
	}
	fails(t, "control {\ndrop;", 1, api.ErrSyntax)
	fails(t, "control {\ndrop;\n\n// }\n", 1, api.ErrSyntax)
	fails(t, "control\n{\ndrop\n}\n;", 3, api.ErrSyntax)
	fails(t, "counter c\n1\n2;", 2, api.ErrSyntax)
}

func TestKeyWordsAreNoNames(t *testing.T) { // P8.1
	if len(keyWords) != 38 {
		t.Fatalf("%d key words", len(keyWords))
	}
	places := []string{"header\n%s{}", "header h{\n%s 8;}", "register\n%s 1 1;", "counter\n%s 1;", "meter\n%s 1 1 1;", "parser{\n%s{go a;}}", "parser{s{take\n%s;go a;}}", "parser{s{go\n%s;}}", "parser{s{select a{8w1:\n%s;else a;}}}", "parser{s{select a{else\n%s;}}}",
		"action\n%s(){}", "action a(\n%s 8){}", "action a(b 8,\n%s 8){}", "table\n%s{key{}actions a;default a();size 1;}", "table t{key{}actions\n%s;default a();size 1;}", "table t{key{}actions a\n%s;default a();size 1;}", "table t{key{}actions a;default\n%s();size 1;}", "deparser{\n%s;}",
		"control{h.\n%s=a;}", "control{apply\n%s;}", "control{make\n%s;}", "control{gone\n%s;}", "control{count\n%s[a];}", "control{read h.a=\n%s[a];}", "control{write\n%s[a]=a;}", "control{meter h.\n%s=m[a];}", "control{random h.\n%s;}", "control{digest h.\n%s;}", "control{digest meta.\n%s;}", "control{digest valid\n%s;}", "control{digest hash\n%s(a);}"}
	for _, place := range places {
		for _, k := range keyWords {
			fails(t, strings.Replace(place, "%s", k, 1), 1, api.ErrSyntax)
		}
		for _, n := range []string{"a", "start", "accept", "reject", "crc16", "port", "out", "Header", "META", "headers", "if_", "_if", "_", "w1", strings.Repeat("n", 255)} {
			if _, line, e := parse.Parse(strings.Replace(place, "%s", n, 1)); line != 0 || e != api.OK {
				t.Errorf("%s at %q: %d, %d", n, place, line, e)
			}
		}
	}
	for _, k := range keyWords {
		fails(t, "control{digest\n"+k+";}", 1, api.ErrSyntax)
		// Of a digest the brackets are those of its expression.
		if k != "digest" {
			fails(t, "control{\n"+k+"(a);}", 1, api.ErrSyntax)
		}
		if k != "meta" {
			fails(t, "control{digest\n"+k+".a;}", 1, api.ErrSyntax)
			fails(t, "control{\n"+k+".a=b;}", 1, api.ErrSyntax)
			fails(t, "control{random\n"+k+".a;}", 1, api.ErrSyntax)
		}
	}
}

func TestErrorsOfWords(t *testing.T) { // P8.1
	for _, s := range []string{"16w", "a\n\n$", "}\n}\n}\n!", "control {\n01", strings.Repeat("\n", api.MaxSource-1) + "$", strings.Repeat(" ", api.MaxSource+1), "}" + strings.Repeat("\n", api.MaxSource), "$" + strings.Repeat(" ", api.MaxSource), strings.Repeat("n", 256)} {
		_, line, e := lex.Words(s)
		fails(t, s, line, e)
		if e == api.OK {
			t.Errorf("%.20q has words", s)
		}
	}
	has(t, strings.Repeat("\n", api.MaxSource-9)+"control{}", api.Program{{Kind: api.DeControl, Line: api.MaxSource - 9}})
	fails(t, strings.Repeat("\n", api.MaxSource-8)+"control{", api.MaxSource-8, api.ErrSyntax)
	fails(t, strings.Repeat("\n", api.MaxSource-8)+"control{}", 0, api.ErrLimit)
}

func TestBracketsMakeNoDifference(t *testing.T) { // P8.2
	r := dice()
	for n := range 3000 {
		s := &scribe{Rand: r, left: n % 20}
		x := s.expr()
		if _, deep := sizeOf(reflect.ValueOf(x), 2); deep > api.MaxDeep {
			continue
		}
		text := s.text.String()
		exprIs(t, text, x)
		exprIs(t, "("+text+")", x)
		exprIs(t, "( ((\t"+text+") ))", x)
	}
}

func TestBlanksMakeNoDifference(t *testing.T) { // P8.2
	for _, s := range wholes {
		tight, loose := s, "\t"+s+" "
		for _, sign := range []string{"{", "}", "(", ")", "[", "]", ";", ":", ",", ".", "=", "~"} {
			tight = strings.ReplaceAll(strings.ReplaceAll(tight, " "+sign, sign), sign+" ", sign)
			loose = strings.ReplaceAll(loose, " "+sign, " \t  "+sign)
		}
		p, _, e := parse.Parse(s)
		if e != api.OK {
			t.Fatalf("%q: %d", s, e)
		}
		has(t, tight, p)
		has(t, loose, p)
		has(t, strings.ReplaceAll(s, " ", "\t"), p)
	}
}

// span is where a list lies, its spare room too.
type span struct{ from, to uintptr }

func spans(v reflect.Value, out []span) []span {
	switch v.Kind() {
	case reflect.Slice:
		if v.Cap() > 0 {
			out = append(out, span{v.Pointer(), v.Pointer() + uintptr(v.Cap())*v.Type().Elem().Size()})
		}
		for i := range v.Len() {
			out = spans(v.Index(i), out)
		}
	case reflect.Struct:
		for i := range v.NumField() {
			out = spans(v.Field(i), out)
		}
	}
	return out
}

func TestAnswersAreNewMemory(t *testing.T) { // R4, R5
	s := strings.Join(wholes, "\n")
	first, _, _ := parse.Parse(s)
	want := told(first)
	second, _, _ := parse.Parse(s)
	if told(second) != want {
		t.Fatalf("the second answer is another one:\n%s\nwant\n%s", told(second), want)
	}
	l := spans(reflect.ValueOf(second), spans(reflect.ValueOf(first), nil))
	slices.SortFunc(l, func(a, b span) int {
		if a.from < b.from {
			return -1
		}
		return 1
	})
	for i := 1; i < len(l); i++ {
		if l[i].from < l[i-1].to {
			t.Errorf("two lists share memory")
		}
	}
	if len(l) < 80 {
		t.Errorf("no more than %d lists", len(l))
	}
}
