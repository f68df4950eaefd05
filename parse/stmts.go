package parse

import "pointsman/api"

func (r *reader) stmtRows() map[string]func() api.Stmt {
	return map[string]func() api.Stmt{
		"if":     r.ifElse,
		"apply":  r.apply,
		"make":   r.makeHeader,
		"gone":   r.gone,
		"count":  r.count,
		"read":   r.read,
		"write":  r.write,
		"meter":  r.meterCell,
		"random": r.random,
		"drop":   r.drop,
		"again":  r.again,
		"round":  r.round,
		"digest": r.digest,
		"clone":  r.clone,
	}
}

func (r *reader) block() []api.Stmt {
	r.pass("{")
	return until(r, "}", r.stmt)
}

func (r *reader) stmt() api.Stmt {
	first := r.ahead()
	read, ok := r.stmts[first.S]
	if ok {
		r.pass(first.S)
	} else {
		read = r.setOrCall
	}
	s := read()
	s.Line = first.Line
	return s
}

func (r *reader) setOrCall() api.Stmt {
	name := r.owner()
	if name != meta && r.is("(") {
		return r.call(name)
	}
	s := api.Stmt{Kind: api.StSet, Name: name, Field: r.fieldOf()}
	r.pass("=")
	s.Args = []api.Expr{closed(r, r.expr)}
	return s
}

func (r *reader) call(name string) api.Stmt {
	s := api.Stmt{Kind: api.StCall, Name: name, Args: bracketed(r, r.expr)}
	r.pass(";")
	return s
}

func (r *reader) ifElse() api.Stmt {
	s := api.Stmt{Kind: api.StIf, Args: []api.Expr{r.expr()}}
	s.Body = r.block()
	if r.passed("else") {
		s.Else = r.block()
	}
	return s
}

func (r *reader) apply() api.Stmt { return r.ofName(api.StApply) }

func (r *reader) makeHeader() api.Stmt { return r.ofName(api.StMake) }

func (r *reader) gone() api.Stmt { return r.ofName(api.StGone) }

func (r *reader) ofName(kind api.StmtKind) api.Stmt {
	return api.Stmt{Kind: kind, Name: closed(r, r.name)}
}

func (r *reader) count() api.Stmt {
	s := api.Stmt{Kind: api.StCount, Name: r.name()}
	s.Args = []api.Expr{r.cell()}
	r.pass(";")
	return s
}

// cell is which one of an array is meant.
func (r *reader) cell() api.Expr {
	r.pass("[")
	x := r.expr()
	r.pass("]")
	return x
}

func (r *reader) read() api.Stmt { return r.fromArray(api.StRead) }

func (r *reader) meterCell() api.Stmt { return r.fromArray(api.StMeter) }

func (r *reader) fromArray(kind api.StmtKind) api.Stmt {
	s := r.ofField(kind)
	r.pass("=")
	s.Array = r.name()
	s.Args = []api.Expr{r.cell()}
	r.pass(";")
	return s
}

func (r *reader) ofField(kind api.StmtKind) api.Stmt {
	s := api.Stmt{Kind: kind, Name: r.owner()}
	s.Field = r.fieldOf()
	return s
}

func (r *reader) write() api.Stmt {
	s := api.Stmt{Kind: api.StWrite, Array: r.name()}
	cell := r.cell()
	r.pass("=")
	s.Args = []api.Expr{cell, closed(r, r.expr)}
	return s
}

func (r *reader) random() api.Stmt {
	s := r.ofField(api.StRandom)
	r.pass(";")
	return s
}

func (r *reader) drop() api.Stmt { return r.bare(api.StDrop) }

func (r *reader) again() api.Stmt { return r.bare(api.StAgain) }

func (r *reader) round() api.Stmt { return r.bare(api.StRound) }

func (r *reader) bare(kind api.StmtKind) api.Stmt {
	r.pass(";")
	return api.Stmt{Kind: kind}
}

func (r *reader) digest() api.Stmt {
	s := api.Stmt{Kind: api.StDigest, Args: some(r, r.expr)}
	r.pass(";")
	return s
}

func (r *reader) clone() api.Stmt {
	return api.Stmt{Kind: api.StClone, N: closed(r, r.whole)}
}
