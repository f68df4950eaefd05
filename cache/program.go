package cache

import "pointsman/api"

func (t teller) decl(d *api.Decl) bool {
	return t.numbers(int(d.Kind), d.W, d.N, d.Rate, d.Burst, d.Line) && t.texts(d.Name, d.Default) &&
		list(t, d.Fields, t.field) && list(t, d.States, t.state) && list(t, d.Keys, t.key) && t.texts(d.Actions...) &&
		list(t, d.Args, t.bits) && list(t, d.Body, t.stmt) && t.texts(d.Emits...)
}

func (t teller) field(f *api.Field) bool { return t.text(&f.Name) && t.numbers(f.W) }

func (t teller) state(s *api.State) bool {
	return t.texts(s.Name, s.To) && t.texts(s.Headers...) && list(t, s.Select, t.expr) && list(t, s.Cases, t.choice) && t.numbers(s.Line)
}

func (t teller) choice(c *api.Case) bool {
	return t.bits(&c.Value) && t.bits(&c.Mask) && t.text(&c.To)
}

func (t teller) key(k *api.Key) bool { return t.numbers(int(k.Kind)) && t.expr(&k.Expr) }

func (t teller) stmt(s *api.Stmt) bool {
	return t.numbers(int(s.Kind), s.N, s.Line) && t.texts(s.Name, s.Field, s.Array) &&
		list(t, s.Args, t.expr) && list(t, s.Body, t.stmt) && list(t, s.Else, t.stmt)
}

func (t teller) expr(e *api.Expr) bool {
	return t.numbers(int(e.Op), e.N, e.M, e.Line) && t.bits(&e.Lit) && t.texts(e.Name, e.Field) && list(t, e.Args, t.expr)
}
