package cache

import "pointsman/api"

func (t teller) code(c *api.Code) bool {
	return t.ints(c.Slots) && list(t, c.Heads, t.head) && t.ints(c.Meta) && list(t, c.States, t.node) && list(t, c.Main, t.instruction) &&
		list(t, c.Acts, t.act) && list(t, c.Tables, t.table) && t.ints(c.Emits) && list(t, c.Arrays, t.array)
}

func (t teller) head(h *api.Head) bool { return t.ints(h.Slots) }

func (t teller) node(n *api.Node) bool {
	return t.ints(n.Heads) && list(t, n.Code, t.instruction) && t.numbers(n.Slot, n.To) && list(t, n.Cases, t.jump)
}

func (t teller) jump(j *api.Jump) bool {
	return t.bits(&j.Value) && t.bits(&j.Mask) && t.numbers(j.To)
}

func (t teller) act(a *api.Act) bool {
	return t.text(&a.Name) && t.ints(a.Params) && list(t, a.Code, t.instruction)
}

func (t teller) table(x *api.Table) bool {
	return t.text(&x.Name) && t.ints(x.Keys) && list(t, x.Kinds, t.kind) && t.ints(x.Actions) && t.numbers(x.Default, x.Size) &&
		list(t, x.Args, t.bits) && list(t, x.Before, t.instruction)
}

func (t teller) kind(k *api.KeyKind) bool { return t.numbers(int(*k)) }

func (t teller) array(a *api.Arr) bool { return t.text(&a.Name) && t.numbers(int(a.Kind), a.W) }

func (t teller) instruction(i *api.Ins) bool {
	return t.numbers(int(i.Op), i.To, i.A, i.B, i.N, i.M, int(i.By)) && t.ints(i.L) && t.bits(&i.Lit)
}
