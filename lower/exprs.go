package lower

import (
	"pointsman/api"
	"pointsman/sums"
)

// exprs are the slots in which expressions are found.
func (b *block) exprs(l []api.Expr) []int {
	var slots []int
	for i := range l {
		slots = append(slots, b.expr(&l[i]))
	}
	return slots
}

// expr is the slot in which an expression is found. Of a field or a param it is that one's own: nothing changes it ahead of the instruction for which it is asked.
func (b *block) expr(e *api.Expr) int {
	switch e.Op {
	case api.OpField:
		return b.slots[name{e.Name, e.Field}]
	case api.OpParam:
		return b.slots[name{b.action, e.Name}]
	}
	i, width := b.instruction(e, b.exprs(e.Args))
	return b.into(i, width)
}

// into adds an instruction with a new slot for what it makes.
func (b *block) into(i api.Ins, width int) int {
	i.To = b.slot(width)
	b.add(i)
	return i.To
}

// instruction is the one that makes an expression of the slots of its Args; and how wide that is.
func (b *block) instruction(e *api.Expr, args []int) (api.Ins, int) {
	switch e.Op {
	case api.OpLit:
		return api.Ins{Op: api.InLit, Lit: e.Lit}, e.Lit.W
	case api.OpValid:
		return b.valid(e.Name), 1
	case api.OpHash:
		n := sums.Find(e.Name)
		return api.Ins{Op: api.InHash, N: n, L: args}, sums.Width(n)
	}
	i := api.Ins{Op: api.InOp, By: e.Op, A: args[0], N: e.N, M: e.M}
	if len(args) > 1 {
		i.B = args[1]
	}
	return i, b.width(i)
}

func (b *block) valid(header string) api.Ins {
	return api.Ins{Op: api.InValid, N: b.places[header]}
}

// width is how wide an operation's number is. It needs no more than the widths of slots, where types.Width would go through the whole program for each part.
func (b *block) width(i api.Ins) int {
	widths := b.code.Slots
	switch i.By {
	case api.OpEq, api.OpNe, api.OpLt, api.OpLe:
		return 1
	case api.OpSlice:
		return i.N - i.M + 1
	case api.OpCast:
		return i.N
	case api.OpCat:
		return widths[i.A] + widths[i.B]
	}
	return widths[i.A]
}
