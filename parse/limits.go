package parse

import "pointsman/api"

// tally counts a tree's parts. Once they are above a limit it goes no deeper, however deep the tree is.
type tally struct {
	parts int
	above bool
}

func aboveLimits(p api.Program) bool {
	var t tally
	for _, d := range p {
		t.decl(d, 1)
	}
	return t.above
}

// add says whether what stands within the part is still asked for.
func (t *tally) add(deep int) bool {
	t.parts++
	t.above = t.above || t.parts > api.MaxParts || deep > api.MaxDeep
	return !t.above
}

func (t *tally) decl(d api.Decl, deep int) {
	t.add(deep)
	for range d.Fields {
		t.add(deep + 1)
	}
	for _, s := range d.States {
		t.state(s, deep+1)
	}
	// A key itself is no part: its expression stands right in the table.
	for _, k := range d.Keys {
		t.expr(k.Expr, deep+1)
	}
	t.stmts(d.Body, deep+1)
}

func (t *tally) state(s api.State, deep int) {
	t.add(deep)
	t.exprs(s.Select, deep+1)
	for range s.Cases {
		t.add(deep + 1)
	}
}

func (t *tally) stmts(l []api.Stmt, deep int) {
	for _, s := range l {
		if t.add(deep) {
			t.exprs(s.Args, deep+1)
			t.stmts(s.Body, deep+1)
			t.stmts(s.Else, deep+1)
		}
	}
}

func (t *tally) exprs(l []api.Expr, deep int) {
	for _, x := range l {
		t.expr(x, deep)
	}
}

func (t *tally) expr(x api.Expr, deep int) {
	if t.add(deep) {
		t.exprs(x.Args, deep+1)
	}
}
