package types

import "pointsman/api"

func (s *scope) stmts(l []api.Stmt) {
	for i := range l {
		s.stmt(&l[i])
	}
}

func (s *scope) stmt(t *api.Stmt) {
	switch t.Kind {
	case api.StSet:
		field := s.fieldSet(t)
		value, _ := s.exprs(t.Args)
		must(value == field, api.ErrWidth, t.Line)
	case api.StIf:
		asked, _ := s.exprs(t.Args)
		must(asked == 1, api.ErrWidth, t.Line)
		s.stmts(t.Body)
		s.stmts(t.Else)
	case api.StApply:
		s.apply(t)
	case api.StCall:
		s.call(t)
	case api.StMake, api.StGone:
		s.find(api.DeHeader, t.Name, t.Line)
	case api.StCount:
		s.find(api.DeCounter, t.Name, t.Line)
		s.exprs(t.Args)
	case api.StRead:
		field, register := s.cellInto(t, api.DeRegister)
		must(field == register.W, api.ErrWidth, t.Line)
	case api.StMeter:
		field, _ := s.cellInto(t, api.DeMeter)
		must(field == 1, api.ErrWidth, t.Line)
	case api.StWrite:
		register := s.find(api.DeRegister, t.Array, t.Line)
		_, value := s.exprs(t.Args)
		must(value == register.W, api.ErrWidth, t.Line)
	case api.StRandom:
		s.fieldSet(t)
	case api.StDigest:
		must(len(t.Args) <= api.MaxFields, api.ErrLimit, t.Line)
		s.exprs(t.Args)
	case api.StClone:
		must(within(t.N, 0, api.MaxGroup-1), api.ErrArg, t.Line)
	}
}

// fieldSet is how wide the field is that a statement sets.
func (s *scope) fieldSet(t *api.Stmt) int { return s.field(t.Name, t.Field, t.Line) }

// cellInto goes through what sets a field from a cell of an array. It tells how wide the field is, and the array.
func (s *scope) cellInto(t *api.Stmt, kind api.DeclKind) (int, *api.Decl) {
	field := s.fieldSet(t)
	array := s.find(kind, t.Array, t.Line)
	s.exprs(t.Args)
	return field, array
}

func (s *scope) apply(t *api.Stmt) {
	must(!s.inAction, api.ErrArg, t.Line)
	s.find(api.DeTable, t.Name, t.Line)
	must(s.applied.add(t.Name), api.ErrArg, t.Line)
}

func (s *scope) call(t *api.Stmt) {
	must(!s.inAction, api.ErrArg, t.Line)
	params := s.find(api.DeAction, t.Name, t.Line).Fields
	must(len(t.Args) == len(params), api.ErrArg, t.Line)
	for i := range t.Args {
		must(s.expr(&t.Args[i]) == params[i].W, api.ErrWidth, t.Line)
	}
}
