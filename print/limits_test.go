package print_test

import (
	"slices"
	"strings"
	"testing"

	"pointsman/api"
	"pointsman/print"
)

// many is a list of n like things.
func many[T any](n int, x T) []T { return slices.Repeat([]T{x}, n) }

func fieldOf(n int) []api.Field { return many(n, api.Field{Name: "a", W: 1}) }

func drops(n int) []api.Stmt { return many(n, api.Stmt{Kind: api.StDrop}) }

func params(n int) []api.Expr { return many(n, param("a")) }

func parserOf(l ...api.State) api.Program { return api.Program{{Kind: api.DeParser, States: l}} }

func tableOf(keys ...api.Key) api.Program {
	return api.Program{{Kind: api.DeTable, Name: "t", Keys: keys, Actions: a1, Default: "a"}}
}

// bigs are programs with n things of a kind, and how many parts they have beside.
var bigs = []struct {
	what   string
	others int
	each   int
	of     func(n int) api.Program
}{
	{"declarations", 0, 1, func(n int) api.Program { return many(n, api.Decl{Kind: api.DeControl}) }},
	{"fields of a header", 1, 1, func(n int) api.Program {
		return api.Program{{Kind: api.DeHeader, Name: "h", Fields: fieldOf(n)}}
	}},
	{"fields of meta", 1, 1, func(n int) api.Program { return api.Program{{Kind: api.DeMeta, Fields: fieldOf(n)}} }},
	{"params", 1, 1, func(n int) api.Program {
		return api.Program{{Kind: api.DeAction, Name: "f", Fields: fieldOf(n)}}
	}},
	{"states", 1, 1, func(n int) api.Program { return parserOf(many(n, api.State{Name: "s", To: "a"})...) }},
	{"cases", 3, 1, func(n int) api.Program {
		return parserOf(api.State{Name: "s", Select: params(1), Cases: many(n, api.Case{Value: ones(1), Mask: ones(1), To: "a"}), To: "a"})
	}},
	{"keys", 1, 1, func(n int) api.Program {
		return tableOf(many(n, api.Key{Expr: param("a"), Kind: api.KeExact})...)
	}},
	{"keys of two", 1, 3, func(n int) api.Program {
		return tableOf(many(n, api.Key{Expr: api.Expr{Op: api.OpAdd, Args: params(2)}, Kind: api.KeExact})...)
	}},
	{"statements", 1, 1, func(n int) api.Program { return controlOf(drops(n)...) }},
	{"statements of an action", 1, 1, func(n int) api.Program {
		return api.Program{{Kind: api.DeAction, Name: "f", Body: drops(n)}}
	}},
	{"a Body", 3, 1, func(n int) api.Program {
		return controlOf(api.Stmt{Kind: api.StIf, Args: params(1), Body: drops(n)})
	}},
	{"an Else", 3, 1, func(n int) api.Program {
		return controlOf(api.Stmt{Kind: api.StIf, Args: params(1), Else: drops(n)})
	}},
	{"calls", 1, 4, func(n int) api.Program {
		return controlOf(many(n, api.Stmt{Kind: api.StCall, Name: "f", Args: params(3)})...)
	}},
	{"values of a digest", 2, 1, func(n int) api.Program { return digestOf(params(n)...) }},
	{"values of a hash", 3, 1, func(n int) api.Program {
		return digestOf(api.Expr{Op: api.OpHash, Name: "h", Args: params(n)})
	}},
	{"turned values", 2, 2, func(n int) api.Program {
		return digestOf(many(n, api.Expr{Op: api.OpNot, Args: params(1)})...)
	}},
}

// more is a program with so many declarations behind it.
func more(p api.Program, n int) api.Program {
	return append(slices.Clone(p), many(n, api.Decl{Kind: api.DeMeta})...)
}

// TestMostParts: of each kind of part, as many as there may be, and one more.
func TestMostParts(t *testing.T) { // P9.1
	for _, c := range bigs {
		n := (api.MaxParts - c.others) / c.each
		rest := (api.MaxParts - c.others) % c.each
		p := more(c.of(n), rest)
		tells(t, p, written(p))
		fails(t, more(c.of(n), rest+1), api.ErrLimit)
		fails(t, more(c.of(n+1), rest), api.ErrLimit)
		fails(t, c.of(70000), api.ErrLimit)
		if t.Failed() {
			t.Fatalf("%s", c.what)
		}
	}
	// What is no part: names, numbers that stand in lists.
	for _, p := range []api.Program{
		{{Kind: api.DeDeparser, Emits: many(20000, "h")}}, parserOf(api.State{Name: "s", Headers: many(6000, "h"), To: "a"}),
		{{Kind: api.DeTable, Name: "t", Actions: many(5000, "a"), Default: "a", Args: many(5000, ones(1))}},
	} {
		tells(t, p, written(p))
	}
}

// nests are expressions and statements with n parts around one.
func nests(n int, inner api.Expr) []api.Expr {
	ways := []func(x api.Expr) api.Expr{
		func(x api.Expr) api.Expr { return api.Expr{Op: api.OpNot, Args: list(x)} },
		func(x api.Expr) api.Expr { return api.Expr{Op: api.OpSlice, Args: list(x)} },
		func(x api.Expr) api.Expr { return api.Expr{Op: api.OpCast, Args: list(x)} },
		func(x api.Expr) api.Expr { return api.Expr{Op: api.OpHash, Name: "h", Args: list(param("a"), x)} },
		func(x api.Expr) api.Expr { return api.Expr{Op: api.OpAdd, Args: list(x, param("a"))} },
		func(x api.Expr) api.Expr { return api.Expr{Op: api.OpAny, Args: list(param("a"), x)} },
	}
	var l []api.Expr
	for _, way := range ways {
		x := inner
		for range n {
			x = way(x)
		}
		l = append(l, x)
	}
	return l
}

// deepExprs are programs in which the innermost expression lies so deep.
func deepExprs(deep int, inner api.Expr) []api.Program {
	var l []api.Program
	for _, x := range nests(deep-3, inner) {
		l = append(l, digestOf(x), parserOf(api.State{Name: "s", Select: list(x), To: "a"}), controlOf(api.Stmt{Kind: api.StWrite, Array: "r", Args: list(param("a"), x)}))
	}
	for _, x := range nests(deep-2, inner) {
		l = append(l, tableOf(api.Key{Expr: x, Kind: api.KeMask}))
	}
	return l
}

// deepStmts are programs in which the innermost statement lies so deep.
func deepStmts(deep int, inner api.Stmt) []api.Program {
	body, other := inner, inner
	for range deep - 2 {
		body = api.Stmt{Kind: api.StIf, Args: params(1), Body: list(body)}
		other = api.Stmt{Kind: api.StIf, Args: params(1), Body: drops(1), Else: list(other)}
	}
	return []api.Program{controlOf(body), controlOf(other), {{Kind: api.DeAction, Name: "f", Body: list(body)}}}
}

// TestDeepest: parts within one another, as many as there may be, and one more.
func TestDeepest(t *testing.T) { // P9.1
	drop, digest := api.Stmt{Kind: api.StDrop}, api.Stmt{Kind: api.StDigest, Args: params(1)}
	right := append(deepExprs(api.MaxDeep, param("a")), deepStmts(api.MaxDeep, drop)...)
	right = append(right, deepStmts(api.MaxDeep-1, digest)...)
	for _, p := range right {
		tells(t, p, written(p))
	}
	deep := append(deepExprs(api.MaxDeep+1, param("a")), deepStmts(api.MaxDeep+1, drop)...)
	deep = append(deep, deepStmts(api.MaxDeep, digest)...)
	for _, p := range deep {
		fails(t, p, api.ErrLimit)
	}
}

// longProgram has a text of so many bytes, and one part.
func longProgram(t *testing.T, size int) api.Program {
	t.Helper()
	var names []string
	for left := size - len("deparser {\n}\n"); left > 0; {
		n := min(left, 257)
		// A line has a byte and its end, or more.
		if rest := left - n; 0 < rest && rest < 3 {
			n -= 3
		}
		names = append(names, strings.Repeat("n", n-2))
		left -= n
	}
	p := api.Program{{Kind: api.DeDeparser, Emits: names}}
	if n := len(written(p)); n != size {
		t.Fatalf("%d bytes, not %d", n, size)
	}
	return p
}

// TestLongest: texts of as many bytes as there may be, and one more.
func TestLongest(t *testing.T) { // P9.1
	p := longProgram(t, api.MaxSource)
	tells(t, p, written(p))
	for _, more := range []int{1, 2, 60, 4464} {
		fails(t, longProgram(t, api.MaxSource+more), api.ErrLimit)
	}
	// What stands last counts too, whatever it is.
	for _, s := range rowTexts {
		last := parsed(t, s)
		right := append(longProgram(t, api.MaxSource-len(s)), last...)
		tells(t, right, written(right))
		fails(t, append(longProgram(t, api.MaxSource-len(s)+1), last...), api.ErrLimit)
		fails(t, append(longProgram(t, api.MaxSource), last...), api.ErrLimit)
	}
	fails(t, api.Program{{Kind: api.DeDeparser, Emits: many(3000000, "h")}}, api.ErrLimit)
}

// TestWrongAheadOfLimits: what is no text's tree is none, however long and deep it is.
func TestWrongAheadOfLimits(t *testing.T) { // P9.1, R2
	wrong := []api.Decl{{}, {Kind: api.DeHeader}, {Kind: api.DeCounter, Name: "c", N: -1}, {Kind: api.DeControl, Body: drops(1), N: 1}, {Kind: api.DeControl, Body: list(api.Stmt{})}, {Kind: api.DeDeparser, Emits: list("h", "")}}
	for _, c := range bigs {
		for _, d := range wrong {
			fails(t, append(c.of(5000), d), api.ErrArg)
			fails(t, append(api.Program{d}, c.of(5000)...), api.ErrArg)
		}
	}
	for _, d := range wrong {
		fails(t, append(longProgram(t, 70000), d), api.ErrArg)
	}
	fails(t, api.Program{{Kind: api.DeDeparser, Emits: append(many(100000, "h"), "5")}}, api.ErrArg)
	fails(t, api.Program{{Kind: api.DeTable, Name: "t", Actions: a1, Default: "a", Args: append(many(100000, ones(1)), api.Bits{})}}, api.ErrArg)
	for _, deep := range []int{65, 200, 3000} {
		for _, x := range []api.Expr{{}, param(""), param("if"), {Op: api.OpLit}, {Op: api.OpParam, Name: "a", N: 1}, {Op: api.OpNot}} {
			for _, p := range deepExprs(deep, x) {
				fails(t, p, api.ErrArg)
			}
		}
		for _, s := range []api.Stmt{{}, {Kind: api.StDrop, Name: "a"}, {Kind: api.StIf}, {Kind: api.StDigest}} {
			for _, p := range deepStmts(deep, s) {
				fails(t, p, api.ErrArg)
			}
		}
	}
}

// TestDeepTrees: as many parts within one another as the document speaks of.
func TestDeepTrees(t *testing.T) { // R1, P9.1
	const most = 1 << 16
	for _, p := range deepExprs(most, param("a")) {
		fails(t, p, api.ErrLimit)
	}
	for _, p := range deepExprs(most, param("5")) {
		fails(t, p, api.ErrArg)
	}
	for _, p := range deepStmts(most, api.Stmt{Kind: api.StDrop}) {
		fails(t, p, api.ErrLimit)
	}
	for _, p := range deepStmts(most, api.Stmt{Kind: api.StApply}) {
		fails(t, p, api.ErrArg)
	}
}

// TestEndlessTrees: lists that lie within themselves. The document says no more of them than that the call ends.
func TestEndlessTrees(t *testing.T) { // R1
	x := []api.Expr{{Op: api.OpAdd}, {Op: api.OpAdd}}
	x[0].Args, x[1].Args = x, x
	s := []api.Stmt{{Kind: api.StIf, Args: params(1)}}
	s[0].Body, s[0].Else = s, s
	for _, p := range []api.Program{digestOf(x...), controlOf(s...)} {
		if text, e := print.Text(p); text != "" || e == api.OK {
			t.Errorf("Text = %.100q, %d", text, e)
		}
	}
}
