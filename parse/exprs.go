package parse

import "pointsman/api"

// two is an operation of two; what is of a higher level holds its parts together more tightly.
type two struct {
	sign  string
	op    api.Op
	level int
}

// Levels of operations of two.
const (
	loosest   = 0
	comparing = 2
	tightest  = 7
)

var twos = []two{
	{"||", api.OpAny, loosest},
	{"&&", api.OpBoth, 1},
	{"==", api.OpEq, comparing}, {"!=", api.OpNe, comparing}, {"<", api.OpLt, comparing}, {"<=", api.OpLe, comparing},
	{"&", api.OpAnd, 3}, {"|", api.OpOr, 3}, {"^", api.OpXor, 3},
	{"+", api.OpAdd, 4}, {"-", api.OpSub, 4},
	{"++", api.OpCat, 5},
	{"*", api.OpMul, 6},
	{"<<", api.OpShl, tightest}, {">>", api.OpShr, tightest},
}

func twoOf(sign string) (two, bool) {
	for _, t := range twos {
		if t.sign == sign {
			return t, true
		}
	}
	return two{}, false
}

func (r *reader) expr() api.Expr { return *r.chain(loosest) }

// chain reads operations of the level least or above. Brackets are no parts, so as many may stand within one another as a text has room for: one function for all levels, and answers by pointers, keep small what each pair takes of the stack.
func (r *reader) chain(least int) *api.Expr {
	line := r.ahead().Line
	left := r.unary()
	most := tightest
	for {
		t, ok := twoOf(r.ahead().S)
		if !ok || t.level < least || t.level > most {
			return left
		}
		r.pass(t.sign)
		right := r.chain(t.level + 1)
		left = &api.Expr{Op: t.op, Args: []api.Expr{*left, *right}, Line: line}
		most = t.level
		// What is compared is no comparison: a second one may not follow, not even where a looser operation stands ahead of the first.
		if t.level == comparing {
			most = comparing - 1
		}
	}
}

func (r *reader) unary() *api.Expr {
	line := r.ahead().Line
	if r.passed("~") {
		return &api.Expr{Op: api.OpNot, Args: []api.Expr{*r.unary()}, Line: line}
	}
	return r.post()
}

func (r *reader) post() *api.Expr {
	line := r.ahead().Line
	x := r.prim()
	for r.passed("[") {
		x = &api.Expr{Op: api.OpSlice, Args: []api.Expr{*x}, Line: line}
		x.N = r.whole()
		r.pass(":")
		x.M = r.whole()
		r.pass("]")
	}
	return x
}

func (r *reader) prim() *api.Expr {
	// An expression in brackets keeps its own line: the brackets are no part of it.
	if r.passed("(") {
		x := r.chain(loosest)
		r.pass(")")
		return x
	}
	line := r.ahead().Line
	x := r.plain()
	x.Line = line
	return &x
}

func (r *reader) plain() api.Expr {
	switch {
	case r.ahead().Kind == api.WLit:
		return api.Expr{Op: api.OpLit, Lit: r.lit()}
	case r.passed("valid"):
		return api.Expr{Op: api.OpValid, Name: r.name()}
	case r.passed("cast"):
		return r.cast()
	case r.passed("hash"):
		return r.hash()
	}
	return r.fieldOrParam()
}

func (r *reader) cast() api.Expr {
	x := api.Expr{Op: api.OpCast, N: r.whole()}
	r.pass("(")
	x.Args = []api.Expr{r.expr()}
	r.pass(")")
	return x
}

func (r *reader) hash() api.Expr {
	x := api.Expr{Op: api.OpHash, Name: r.name()}
	r.pass("(")
	x.Args = some(r, r.expr)
	r.pass(")")
	return x
}

func (r *reader) fieldOrParam() api.Expr {
	name := r.owner()
	if name == meta || r.is(".") {
		return api.Expr{Op: api.OpField, Name: name, Field: r.fieldOf()}
	}
	return api.Expr{Op: api.OpParam, Name: name}
}
