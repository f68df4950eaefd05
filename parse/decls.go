package parse

import "pointsman/api"

func (r *reader) declRows() map[string]func() api.Decl {
	return map[string]func() api.Decl{
		"header":   r.header,
		meta:       r.metadata,
		"register": r.register,
		"counter":  r.counter,
		"meter":    r.meter,
		"parser":   r.parser,
		"action":   r.action,
		"table":    r.table,
		"control":  r.control,
		"deparser": r.deparser,
	}
}

func (r *reader) program() api.Program {
	var p api.Program
	for r.ahead().Kind != api.WEnd {
		p = append(p, r.decl())
	}
	return p
}

func (r *reader) decl() api.Decl {
	first := r.ahead()
	read, ok := r.decls[first.S]
	must(ok)
	r.pass(first.S)
	d := read()
	d.Line = first.Line
	return d
}

func (r *reader) header() api.Decl {
	d := api.Decl{Kind: api.DeHeader, Name: r.name()}
	d.Fields = r.fields()
	return d
}

func (r *reader) metadata() api.Decl { return api.Decl{Kind: api.DeMeta, Fields: r.fields()} }

func (r *reader) fields() []api.Field {
	r.pass("{")
	return rows(r, "}", r.field)
}

func (r *reader) field() api.Field {
	name := r.name()
	return api.Field{Name: name, W: r.whole()}
}

func (r *reader) register() api.Decl {
	d := api.Decl{Kind: api.DeRegister, Name: r.name()}
	d.W = r.whole()
	d.N = closed(r, r.whole)
	return d
}

func (r *reader) counter() api.Decl {
	d := api.Decl{Kind: api.DeCounter, Name: r.name()}
	d.N = closed(r, r.whole)
	return d
}

func (r *reader) meter() api.Decl {
	d := api.Decl{Kind: api.DeMeter, Name: r.name()}
	d.N = r.whole()
	d.Rate = r.whole()
	d.Burst = closed(r, r.whole)
	return d
}

func (r *reader) parser() api.Decl {
	r.pass("{")
	return api.Decl{Kind: api.DeParser, States: until(r, "}", r.state)}
}

func (r *reader) state() api.State {
	s := api.State{Line: r.ahead().Line}
	s.Name = r.name()
	r.pass("{")
	for r.passed("take") {
		s.Headers = append(s.Headers, closed(r, r.name))
	}
	if r.passed("select") {
		s.Select = []api.Expr{r.expr()}
		r.pass("{")
		s.Cases = rows(r, "else", r.caseOf)
		s.To = closed(r, r.name)
		r.pass("}")
	} else {
		r.pass("go")
		s.To = closed(r, r.name)
	}
	r.pass("}")
	return s
}

func (r *reader) caseOf() api.Case {
	c := api.Case{Value: r.lit()}
	c.Mask = allSet(c.Value.W)
	if r.passed("&") {
		c.Mask = r.lit()
	}
	r.pass(":")
	c.To = r.name()
	return c
}

func allSet(w int) api.Bits {
	const wordBits = 64
	return api.Bits{W: w, Hi: lowest(max(w-wordBits, 0)), Lo: lowest(w)}
}

// lowest relies on a shift by 64 or more coming to 0, so that there all bits are set.
func lowest(n int) uint64 { return uint64(1)<<n - 1 }

func (r *reader) action() api.Decl {
	d := api.Decl{Kind: api.DeAction, Name: r.name()}
	d.Fields = bracketed(r, r.field)
	d.Body = r.block()
	return d
}

func (r *reader) table() api.Decl {
	d := api.Decl{Kind: api.DeTable, Name: r.name()}
	r.pass("{", "key", "{")
	d.Keys = rows(r, "}", r.key)
	r.pass("actions")
	d.Actions = []string{r.name()}
	d.Actions = append(d.Actions, until(r, ";", r.name)...)
	r.pass("default")
	d.Default = r.name()
	d.Args = bracketed(r, r.lit)
	r.pass(";", "size")
	d.N = closed(r, r.whole)
	r.pass("}")
	return d
}

func (r *reader) key() api.Key {
	x := r.expr()
	return api.Key{Expr: x, Kind: r.kind()}
}

func (r *reader) kind() api.KeyKind {
	switch {
	case r.passed("exact"):
		return api.KeExact
	case r.passed("prefix"):
		return api.KePrefix
	case r.passed("mask"):
		return api.KeMask
	}
	r.pass("range")
	return api.KeRange
}

func (r *reader) control() api.Decl { return api.Decl{Kind: api.DeControl, Body: r.block()} }

func (r *reader) deparser() api.Decl {
	r.pass("{")
	return api.Decl{Kind: api.DeDeparser, Emits: rows(r, "}", r.name)}
}
