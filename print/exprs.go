package print

import "pointsman/api"

func (w *writer) expr(x api.Expr) {
	switch x.Op {
	case api.OpLit:
		w.lit(take(&x.Lit))
	case api.OpField:
		w.fieldOf(take(&x.Name), take(&x.Field))
	case api.OpParam:
		w.name(take(&x.Name))
	case api.OpValid:
		w.put("valid ")
		w.name(take(&x.Name))
	case api.OpSlice:
		w.slice(&x)
	case api.OpCast:
		w.cast(&x)
	case api.OpHash:
		w.hash(&x)
	case api.OpNot:
		w.put("~")
		w.args(1, take(&x.Args), w.operand, "")
	default:
		w.two(&x)
	}
	w.must(nothingInExpr(&x))
}

func nothingInExpr(x *api.Expr) bool {
	return x.Lit == api.Bits{} && x.Name == "" && x.Field == "" && x.N == 0 && x.M == 0 && len(x.Args) == 0
}

// args writes n expressions, just as many as there must be.
func (w *writer) args(n int, l []api.Expr, write func(api.Expr), between string) {
	w.must(len(l) == n)
	partRow(w, l, write, between)
}

// someArgs writes expressions of which there must be one.
func (w *writer) someArgs(l []api.Expr) {
	w.must(len(l) > 0)
	partRow(w, l, w.expr, ", ")
}

func (w *writer) slice(x *api.Expr) {
	w.args(1, take(&x.Args), w.operand, "")
	w.put("[")
	w.whole(take(&x.N))
	w.put(":")
	w.whole(take(&x.M))
	w.put("]")
}

func (w *writer) cast(x *api.Expr) {
	w.put("cast ")
	w.whole(take(&x.N))
	w.put("(")
	w.args(1, take(&x.Args), w.expr, "")
	w.put(")")
}

func (w *writer) hash(x *api.Expr) {
	w.put("hash ")
	w.name(take(&x.Name))
	w.put("(")
	w.someArgs(take(&x.Args))
	w.put(")")
}

func (w *writer) two(x *api.Expr) {
	between := signOf(x.Op)
	w.must(between != "")
	w.args(2, take(&x.Args), w.operand, between)
}

func (w *writer) operand(x api.Expr) {
	if x.Op != api.OpNot && signOf(x.Op) == "" {
		w.expr(x)
		return
	}
	w.put("(")
	w.expr(x)
	w.put(")")
}

// sign is that of an operation of two, with a blank on both sides.
type sign struct {
	op   api.Op
	text string
}

var signs = [...]sign{
	{api.OpAdd, " + "}, {api.OpSub, " - "}, {api.OpMul, " * "}, {api.OpAnd, " & "}, {api.OpOr, " | "}, {api.OpXor, " ^ "},
	{api.OpShl, " << "}, {api.OpShr, " >> "}, {api.OpCat, " ++ "},
	{api.OpEq, " == "}, {api.OpNe, " != "}, {api.OpLt, " < "}, {api.OpLe, " <= "}, {api.OpBoth, " && "}, {api.OpAny, " || "},
}

// signOf is empty of what is no operation of two.
func signOf(op api.Op) string {
	for _, s := range signs {
		if s.op == op {
			return s.text
		}
	}
	return ""
}
