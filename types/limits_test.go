package types_test

import (
	"slices"
	"strconv"
	"strings"
	"testing"

	"pointsman/api"
	"pointsman/types"
)

// countersOf are n counters, each in a line of its own from 1000 on.
func countersOf(n int) api.Program {
	var p api.Program
	for i := range n {
		p = append(p, api.Decl{Kind: api.DeCounter, Name: "c" + strconv.Itoa(i), N: 1, Line: 1000 + i})
	}
	return p
}

// finds asks for what Check says of a tree.
func finds(t *testing.T, p api.Program, line int, want api.Errno) {
	t.Helper()
	if n, e := types.Check(p); n != line || e != want {
		t.Errorf("Check(%d declarations) = %d, %d, want %d, %d", len(p), n, e, line, want)
	}
}

func TestMostDeclarations(t *testing.T) { // P10.1
	finds(t, countersOf(256), 0, api.OK)
	finds(t, countersOf(257), 1256, api.ErrLimit)
	finds(t, countersOf(300), 1256, api.ErrLimit)
	// Those that have no name count too.
	mixed := slices.Insert(countersOf(254), 100, api.Decl{Kind: api.DeControl}, api.Decl{Kind: api.DeMeta})
	finds(t, mixed, 0, api.OK)
	finds(t, append(mixed, api.Decl{Kind: api.DeDeparser, Line: 7}), 7, api.ErrLimit)
	for _, c := range []struct {
		as, like, line int
		want           api.Errno
	}{{1, 0, 1001, api.ErrName}, {255, 0, 1255, api.ErrName}, {255, 254, 1255, api.ErrName}, {256, 0, 1256, api.ErrLimit}, {256, 255, 1256, api.ErrLimit}, {257, 0, 1256, api.ErrLimit}} {
		p := countersOf(258)
		p[c.as].Name = p[c.like].Name
		finds(t, p, c.line, c.want)
	}
	// What is in declarations comes behind.
	p := countersOf(257)
	p[0].N = 0
	finds(t, p, 1256, api.ErrLimit)
	finds(t, p[:256], 1000, api.ErrArg)
}

// TestErrorsOfText: they come ahead of all others, and have no line.
func TestErrorsOfText(t *testing.T) { // P10.1, R2
	wrong := api.Decl{Kind: api.DeCounter, Name: "k", Line: 5}
	long := api.Decl{Kind: api.DeDeparser, Emits: slices.Repeat([]string{"z"}, 33000), Line: 6}
	deep := api.Decl{Kind: api.DeControl, Body: []api.Stmt{{Kind: api.StDigest, Args: []api.Expr{nest(62, lit(8), turn)}, Line: 8}}, Line: 7}
	finds(t, api.Program{wrong}, 5, api.ErrArg)
	for _, p := range []api.Program{{long}, {wrong, long}, {deep}, {deep, wrong}, {wrong, deep}, countersOf(4097), append(api.Program{wrong}, countersOf(4096)...)} {
		finds(t, p, 0, api.ErrLimit)
	}
	finds(t, countersOf(3000), 1256, api.ErrLimit)
	deep.Body[0].Args = []api.Expr{nest(61, lit(8), turn)}
	finds(t, api.Program{deep}, 0, api.OK)
	finds(t, api.Program{deep, deep}, 7, api.ErrName)
	long.Emits = long.Emits[:20000]
	finds(t, api.Program{long}, 6, api.ErrName)
	for _, none := range []api.Decl{{Line: 9}, {Kind: api.DeHeader, Line: 9}, {Kind: api.DeCounter, Name: "if", N: 1, Line: 9}, {Kind: api.DeCounter, Name: "c", N: -1, Line: 9}, {Kind: api.DeControl, N: 1, Line: 9}, {Kind: api.DeDeparser + 1, Line: 9}} {
		for _, p := range []api.Program{{none}, {wrong, none}, {none, wrong}, {deep, deep, none}, append(countersOf(5000), none)} {
			finds(t, p, 0, api.ErrArg)
		}
	}
}

// TestZeroTrees: things of each kind with nothing in them, and expressions of each number of Args.
func TestZeroTrees(t *testing.T) { // P10.1, P10.2, R1
	names := []string{"", "h", "meta", "zz"}
	for _, name := range names {
		for k := range api.DeDeparser + 2 {
			holds(t, api.Program{{Kind: k, Name: name}})
		}
		for k := range api.StRound + 2 {
			for n := range 4 {
				s := api.Stmt{Kind: k, Name: name, Field: name, Args: slices.Repeat([]api.Expr{lit(1)}, n)}
				holds(t, api.Program{{Kind: api.DeControl, Body: []api.Stmt{s}}})
				s.Array = name
				holds(t, api.Program{{Kind: api.DeAction, Name: "f", Body: []api.Stmt{s}}})
			}
		}
		for op := range api.OpHash + 2 {
			for n := range 4 {
				for _, arg := range []api.Expr{{}, lit(1), lit(0), lit(129), lit(128)} {
					x := api.Expr{Op: op, Name: name, Args: slices.Repeat([]api.Expr{arg}, n)}
					w, e := modelWidth(nil, nil, x)
					widthIs(t, nil, nil, x, w, e)
				}
			}
		}
	}
}

func lit(w int) api.Expr { return api.Expr{Op: api.OpLit, Lit: api.Bits{W: w}} }

func turn(x api.Expr) api.Expr { return api.Expr{Op: api.OpNot, Args: []api.Expr{x}} }

// nest is an expression with n others around it.
func nest(n int, x api.Expr, around func(api.Expr) api.Expr) api.Expr {
	for range n {
		x = around(x)
	}
	return x
}

// arounds are ways in which an expression stands in one that is 8 wide, if it is so itself.
func arounds() []func(api.Expr) api.Expr {
	return []func(api.Expr) api.Expr{
		turn,
		func(x api.Expr) api.Expr { return api.Expr{Op: api.OpCast, N: 8, Args: []api.Expr{x}} },
		func(x api.Expr) api.Expr { return api.Expr{Op: api.OpSlice, N: 7, Args: []api.Expr{x}} },
		func(x api.Expr) api.Expr { return api.Expr{Op: api.OpAdd, Args: []api.Expr{x, lit(8)}} },
		func(x api.Expr) api.Expr { return api.Expr{Op: api.OpXor, Args: []api.Expr{lit(8), x}} },
		func(x api.Expr) api.Expr { return api.Expr{Op: api.OpShl, Args: []api.Expr{x, lit(1)}} },
		func(x api.Expr) api.Expr {
			return api.Expr{Op: api.OpSlice, N: 7, Args: []api.Expr{{Op: api.OpHash, Name: "crc16", Args: []api.Expr{lit(1), lit(2), x}}}}
		},
	}
}

// TestDeepExpressions: Width's may be as deep as they like.
func TestDeepExpressions(t *testing.T) { // P10.2, R1
	p := api.Program{{Kind: api.DeControl}}
	params := []api.Field{{Name: "p", W: 8}}
	for _, deep := range []int{61, 62, 63, 64, 65, 1000, 1<<16 - 4} {
		for _, around := range arounds() {
			n := deep
			if around(lit(8)).Args[0].Op == api.OpHash {
				n /= 2
			}
			widthIs(t, p, params, nest(n, api.Expr{Op: api.OpParam, Name: "p"}, around), 8, api.OK)
			widthIs(t, p, params, nest(n, api.Expr{Op: api.OpParam, Name: "q"}, around), 0, api.ErrName)
			widthIs(t, p, params, nest(n, api.Expr{Op: api.OpParam, Name: "5"}, around), 0, api.ErrArg)
			widthIs(t, p, params, nest(n, api.Expr{}, around), 0, api.ErrArg)
		}
	}
}

// TestLongExpressions: and as long as they like.
func TestLongExpressions(t *testing.T) { // P10.2
	full := func(deep int) api.Expr {
		return nest(deep, lit(8), func(x api.Expr) api.Expr { return api.Expr{Op: api.OpMul, Args: []api.Expr{x, x}} })
	}
	for _, deep := range []int{10, 11, 12, 13, 16} {
		widthIs(t, nil, nil, full(deep), 8, api.OK)
		widthIs(t, nil, nil, api.Expr{Op: api.OpCat, Args: []api.Expr{full(deep), full(deep)}}, 16, api.OK)
		widthIs(t, nil, nil, api.Expr{Op: api.OpAdd, Args: []api.Expr{full(deep), lit(9)}}, 0, api.ErrWidth)
	}
	name := strings.Repeat("n", 255)
	long := nest(300, api.Expr{Op: api.OpParam, Name: name}, func(x api.Expr) api.Expr {
		return api.Expr{Op: api.OpAdd, Args: []api.Expr{{Op: api.OpParam, Name: name}, x}}
	})
	widthIs(t, nil, []api.Field{{Name: name, W: 77}}, long, 77, api.OK)
	widthIs(t, nil, nil, long, 0, api.ErrName)
	for _, n := range []int{64, 65, 5000, 100000} {
		want, width := api.ErrLimit, 0
		if n <= api.MaxFields {
			want, width = api.OK, 16
		}
		l := slices.Repeat([]api.Expr{lit(8)}, n)
		widthIs(t, nil, nil, api.Expr{Op: api.OpHash, Name: "xor16", Args: l}, width, want)
		widthIs(t, nil, nil, api.Expr{Op: api.OpHash, Name: "xor17", Args: l}, 0, api.ErrName)
		widthIs(t, nil, nil, api.Expr{Op: api.OpHash, Name: "xor17", Args: append(l, api.Expr{Op: api.OpCast, Args: l[:1]})}, 0, api.ErrArg)
	}
}

// TestParams: whatever their names are and however many there are; the first one of a name counts, and all have widths that may be.
func TestParams(t *testing.T) { // P10.2
	p := parsed(t, base)
	x := api.Expr{Op: api.OpParam, Name: "p"}
	of := func(widths ...int) []api.Field {
		var l []api.Field
		for _, w := range widths {
			l = append(l, api.Field{Name: "p", W: w})
		}
		return l
	}
	for _, w := range []int{1, 2, 64, 127, 128} {
		widthIs(t, p, of(w), x, w, api.OK)
		widthIs(t, p, of(w, 3), x, w, api.OK)
		widthIs(t, p, of(3, w), x, 3, api.OK)
	}
	for _, w := range []int{0, 129, -1, -1 << 63, 1<<63 - 1} {
		for _, l := range [][]api.Field{of(w), of(w, 8), of(8, w), of(8, 8, w, 8), {{Name: "p", W: 8}, {Name: "q", W: w}}, {{W: w}, {Name: "p", W: 8}}} {
			widthIs(t, p, l, x, 0, api.ErrArg)
			widthIs(t, p, l, lit(8), 0, api.ErrArg)
			widthIs(t, p, l, api.Expr{Op: api.OpParam, Name: "z"}, 0, api.ErrArg)
		}
	}
	widthIs(t, p, nil, x, 0, api.ErrName)
	widthIs(t, p, []api.Field{}, x, 0, api.ErrName)
	widthIs(t, p, []api.Field{{W: 1}, {Name: "meta", W: 1}, {Name: "a b", W: 1}, {Name: "if", W: 2}, {Name: "P", W: 3}}, x, 0, api.ErrName)
	widthIs(t, p, []api.Field{{W: 1}, {Name: "meta", W: 1}, {Name: "a b", W: 1}, {Name: "if", W: 2}, {Name: "p", W: 3}}, x, 3, api.OK)
	// A param may have the name of a header, of a field; these keep theirs.
	also := []api.Field{{Name: "h", W: 5}, {Name: "a", W: 6}, {Name: "meta", W: 7}, {Name: "port", W: 9}}
	widthIs(t, p, also, exprOf(t, "h"), 5, api.OK)
	widthIs(t, p, also, exprOf(t, "h.a"), 8, api.OK)
	widthIs(t, p, also, exprOf(t, "valid h"), 1, api.OK)
	widthIs(t, p, also, exprOf(t, "a ++ port"), 15, api.OK)
	widthIs(t, p, also, exprOf(t, "meta.port"), 16, api.OK)
	widthIs(t, p, also, exprOf(t, "valid a"), 0, api.ErrName)
	// Those of the program's actions are none.
	widthIs(t, p, also, exprOf(t, "q"), 0, api.ErrName)
	many := make([]api.Field, 200000)
	for i := range many {
		many[i] = api.Field{Name: "n" + strconv.Itoa(i), W: 1 + i%128}
	}
	all := api.Expr{Op: api.OpHash, Name: "crc32"}
	for i := range many {
		all.Args = append(all.Args, api.Expr{Op: api.OpParam, Name: many[len(many)-1-i].Name})
	}
	widthIs(t, p, many, all, 0, api.ErrLimit)
	widthIs(t, p, many, all.Args[7], 1+(len(many)-8)%128, api.OK)
}

// TestWidthOfNoProgram: Width says ErrArg of whatever is wrong with a program, and with what is no expression.
func TestWidthOfNoProgram(t *testing.T) { // P10.2, R2
	for _, s := range []string{"counter c 0;", "counter c 1; counter c 1;", "control{h.a=8w1;}", "control{meta.out=8w1;}", "control{} control{}", "action a(p 8){n();}", "parser{}"} {
		p := parsed(t, s)
		widthIs(t, p, nil, lit(8), 0, api.ErrArg)
		widthIs(t, p, nil, exprOf(t, "z"), 0, api.ErrArg)
		widthIs(t, p, nil, exprOf(t, "8w1+9w1"), 0, api.ErrArg)
	}
	for _, p := range []api.Program{{{}}, countersOf(257), countersOf(4097), {{Kind: api.DeHeader}}} {
		widthIs(t, p, nil, lit(8), 0, api.ErrArg)
	}
	p := parsed(t, base)
	widthIs(t, p, nil, lit(8), 8, api.OK)
	eight := []api.Expr{lit(8), lit(8), lit(8)}
	for _, x := range []api.Expr{
		{}, {Op: api.OpHash + 1}, {Op: 255}, lit(0), lit(129), lit(-1), {Op: api.OpLit, Lit: api.Bits{W: 8, Lo: 256}}, {Op: api.OpLit, Lit: api.Bits{W: 8, Lo: 1}, Name: "h"}, {Op: api.OpLit, Lit: api.Bits{W: 8}, Args: eight[:1]},
		{Op: api.OpField, Name: "h"}, {Op: api.OpField, Field: "a"}, {Op: api.OpField, Name: "h", Field: "meta"}, {Op: api.OpField, Name: "h", Field: "a", N: 1}, {Op: api.OpParam}, {Op: api.OpParam, Name: "meta"}, {Op: api.OpValid, Name: "meta"}, {Op: api.OpValid, Name: "h", Field: "a"},
		{Op: api.OpNot}, {Op: api.OpNot, Args: eight[:2]}, {Op: api.OpAdd, Args: eight[:1]}, {Op: api.OpAdd, Args: eight}, {Op: api.OpShl}, {Op: api.OpCast, N: 8}, {Op: api.OpCast, N: -1, Args: eight[:1]}, {Op: api.OpSlice, N: -1, Args: eight[:1]}, {Op: api.OpSlice, N: 1, M: -1, Args: eight[:1]}, {Op: api.OpSlice, N: 1 << 40, Args: eight[:1]}, {Op: api.OpCast, N: 8, M: 1, Args: eight[:1]},
		{Op: api.OpHash, Name: "crc16"}, {Op: api.OpHash, Args: eight}, {Op: api.OpHash, Name: "hash", Args: eight},
	} {
		widthIs(t, p, []api.Field{{W: 8}, {Name: "meta", W: 8}}, x, 0, api.ErrArg)
		widthIs(t, p, nil, turn(x), 0, api.ErrArg)
		widthIs(t, p, nil, api.Expr{Op: api.OpAdd, Args: []api.Expr{{Op: api.OpParam, Name: "z"}, x}}, 0, api.ErrArg)
	}
}

// TestEndlessTrees: lists that lie within themselves. The document says no more of them than that the call ends.
func TestEndlessTrees(t *testing.T) { // R1
	x := []api.Expr{{Op: api.OpAdd}, {Op: api.OpAdd}}
	x[0].Args, x[1].Args = x, x
	s := []api.Stmt{{Kind: api.StIf, Args: []api.Expr{lit(1)}}}
	s[0].Body, s[0].Else = s, s
	for _, p := range []api.Program{{{Kind: api.DeControl, Body: s}}, {{Kind: api.DeControl, Body: []api.Stmt{{Kind: api.StDigest, Args: x}}}}} {
		if line, e := types.Check(p); line != 0 || e == api.OK {
			t.Errorf("Check = %d, %d", line, e)
		}
	}
	if w, e := types.Width(nil, nil, x[0]); w != 0 || e == api.OK {
		t.Errorf("Width = %d, %d", w, e)
	}
}
