package types

import (
	"pointsman/api"
	"pointsman/sums"
)

// Of expressions of more parts than mostParts the document promises nothing. Lists that lie again and again within others may come to so many that going through them comes to no other end.
const mostParts = 1<<31 - 1

// exprs goes through expressions, and tells how wide the first two are: no row asks for another one's width.
func (s *scope) exprs(l []api.Expr) (first, second int) {
	var widths [2]int
	for i := range l {
		w := s.expr(&l[i])
		if i < len(widths) {
			widths[i] = w
		}
	}
	return widths[0], widths[1]
}

// expr goes through an expression, and tells how wide it is.
func (s *scope) expr(e *api.Expr) int {
	s.parts++
	must(s.parts <= mostParts, api.ErrLimit, e.Line)
	a, b := s.exprs(e.Args)
	switch e.Op {
	case api.OpLit:
		return e.Lit.W
	case api.OpField:
		return s.field(e.Name, e.Field, e.Line)
	case api.OpParam:
		return s.param(e.Name, e.Line)
	case api.OpValid:
		s.find(api.DeHeader, e.Name, e.Line)
		return 1
	case api.OpSlice:
		must(e.M <= e.N && e.N < a, api.ErrArg, e.Line)
		return e.N - e.M + 1
	case api.OpCast:
		must(isWidth(e.N), api.ErrArg, e.Line)
		return e.N
	case api.OpHash:
		return hash(e)
	}
	return operation(e, a, b)
}

func hash(e *api.Expr) int {
	n := sums.Find(e.Name)
	must(n != 0, api.ErrName, e.Line)
	must(len(e.Args) <= api.MaxFields, api.ErrLimit, e.Line)
	return sums.Width(n)
}

// operation is how wide an operation of one or of two is, whose Args are a and b wide. OpNot, OpShl and OpShr ask for nothing.
func operation(e *api.Expr, a, b int) int {
	switch e.Op {
	case api.OpAdd, api.OpSub, api.OpMul, api.OpAnd, api.OpOr, api.OpXor:
		must(a == b, api.ErrWidth, e.Line)
	case api.OpEq, api.OpNe, api.OpLt, api.OpLe:
		must(a == b, api.ErrWidth, e.Line)
		return 1
	case api.OpCat:
		must(a <= api.MaxWidth-b, api.ErrWidth, e.Line)
		return a + b
	case api.OpBoth, api.OpAny:
		must(a == 1 && b == 1, api.ErrWidth, e.Line)
	}
	return a
}
