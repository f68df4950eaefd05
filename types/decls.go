package types

import "pointsman/api"

func (s *scope) program(p api.Program) {
	for i := range p {
		s.decl(&p[i])
	}
}

func (s *scope) decl(d *api.Decl) {
	switch d.Kind {
	case api.DeHeader:
		header(d)
	case api.DeMeta:
		metadata(d)
	case api.DeRegister, api.DeCounter, api.DeMeter:
		must(isArray(d), api.ErrArg, d.Line)
	case api.DeParser:
		s.parser(d)
	case api.DeAction:
		s.action(d)
	case api.DeTable:
		s.table(d)
	case api.DeControl:
		s.stmts(d.Body)
	case api.DeDeparser:
		s.deparser(d)
	}
}

func header(d *api.Decl) {
	must(len(d.Fields) > 0, api.ErrArg, d.Line)
	fields(d, set[string]{})
	together := 0
	for _, f := range d.Fields {
		together += f.W
	}
	must(together%8 == 0, api.ErrArg, d.Line)
}

func metadata(d *api.Decl) {
	ahead := set[string]{}
	for _, f := range ownFields() {
		ahead.add(f.Name)
	}
	fields(d, ahead)
}

// fields goes through the fields, or the params, of a declaration; ahead are names that they may not have.
func fields(d *api.Decl, ahead set[string]) {
	must(len(d.Fields) <= api.MaxFields, api.ErrLimit, d.Line)
	for _, f := range d.Fields {
		must(ahead.add(f.Name), api.ErrName, d.Line)
		must(isWidth(f.W), api.ErrArg, d.Line)
	}
}

func isArray(d *api.Decl) bool {
	ok := within(d.N, 1, api.MaxCells)
	switch d.Kind {
	case api.DeRegister:
		ok = ok && isWidth(d.W)
	case api.DeMeter:
		ok = ok && within(d.Rate, 0, 65535) && within(d.Burst, 1, 65535)
	}
	return ok
}

func (s *scope) parser(d *api.Decl) {
	targets := set[string]{"accept": {}, "reject": {}}
	for _, t := range d.States {
		must(targets.add(t.Name), api.ErrName, t.Line)
	}
	must(targets.has("start"), api.ErrName, d.Line)
	for i := range d.States {
		s.state(&d.States[i], targets)
	}
}

// state goes through a state; targets are whereto one may lead.
func (s *scope) state(t *api.State, targets set[string]) {
	for _, name := range t.Headers {
		s.find(api.DeHeader, name, t.Line)
	}
	selected, _ := s.exprs(t.Select)
	for _, c := range t.Cases {
		must(c.Value.W == selected && c.Mask.W == selected, api.ErrWidth, t.Line)
		must(targets.has(c.To), api.ErrName, t.Line)
	}
	must(targets.has(t.To), api.ErrName, t.Line)
}

func (s *scope) action(d *api.Decl) {
	fields(d, set[string]{})
	inner := s.with(d.Fields)
	inner.inAction = true
	inner.stmts(d.Body)
}

func (s *scope) table(d *api.Decl) {
	s.keys(d)
	actions := set[string]{}
	for _, name := range d.Actions {
		s.find(api.DeAction, name, d.Line)
		must(actions.add(name), api.ErrName, d.Line)
	}
	must(actions.has(d.Default), api.ErrName, d.Line)
	params := s.find(api.DeAction, d.Default, d.Line).Fields
	must(len(d.Args) == len(params), api.ErrArg, d.Line)
	for i, arg := range d.Args {
		must(arg.W == params[i].W, api.ErrWidth, d.Line)
	}
	must(within(d.N, 1, api.MaxCells), api.ErrArg, d.Line)
}

func (s *scope) keys(d *api.Decl) {
	must(len(d.Keys) <= api.MaxFields, api.ErrLimit, d.Line)
	prefixes := 0
	for i := range d.Keys {
		s.expr(&d.Keys[i].Expr)
		if d.Keys[i].Kind == api.KePrefix {
			prefixes++
		}
		must(prefixes <= 1, api.ErrArg, d.Line)
	}
}

func (s *scope) deparser(d *api.Decl) {
	ahead := set[string]{}
	for _, name := range d.Emits {
		s.find(api.DeHeader, name, d.Line)
		must(ahead.add(name), api.ErrName, d.Line)
	}
}
