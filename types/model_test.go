package types_test

import (
	"fmt"
	"reflect"
	"slices"
	"testing"

	"pointsman/api"
	"pointsman/print"
	"pointsman/types"
)

func told(x any) string { return fmt.Sprintf("%+v", x) }

// fault is an error as the chapter's tables tell it: by which row.
type fault struct {
	e    api.Errno
	line int
	row  string
}

// model goes through all of a program, and notes what is wrong, in order. What it notes behind the first fault means nothing.
type model struct {
	p      api.Program
	params []api.Field
	faults []fault
}

func (m *model) wrong(is bool, e api.Errno, line int, row string) {
	if is {
		m.faults = append(m.faults, fault{e, line, row})
	}
}

func (m *model) first() fault { return append(m.faults, fault{})[0] }

var singles = []api.DeclKind{api.DeMeta, api.DeParser, api.DeControl, api.DeDeparser}

// modelCheck is what P10.1 says of a program.
func modelCheck(p api.Program) fault {
	if _, e := print.Text(p); e != api.OK {
		return fault{e, 0, fmt.Sprintf("no text: %d", e)}
	}
	m := &model{p: p}
	for i, d := range p {
		m.wrong(i == 256, api.ErrLimit, d.Line, "declarations")
		for _, a := range p[:i] {
			if slices.Contains(singles, d.Kind) {
				m.wrong(a.Kind == d.Kind, api.ErrName, d.Line, fmt.Sprintf("second %d", d.Kind))
			} else {
				m.wrong(a.Name == d.Name, api.ErrName, d.Line, "declared ahead")
			}
		}
	}
	for _, d := range p {
		m.decl(d)
	}
	return m.first()
}

// modelWidth is what P10.2 says of an expression of a program.
func modelWidth(p api.Program, params []api.Field, x api.Expr) (int, api.Errno) {
	if modelCheck(p).e != api.OK {
		return 0, api.ErrArg
	}
	if _, e := print.Text(api.Program{{Kind: api.DeControl, Body: []api.Stmt{{Kind: api.StDigest, Args: []api.Expr{x}}}}}); e == api.ErrArg {
		return 0, e
	}
	for _, f := range params {
		if f.W < 1 || f.W > 128 {
			return 0, api.ErrArg
		}
	}
	m := &model{p: p, params: params}
	w := m.expr(x)
	if len(m.faults) > 0 {
		return 0, m.faults[0].e
	}
	return w, api.OK
}

// named is the declaration of a name, if it is of that kind.
func (m *model) named(kind api.DeclKind, name string) *api.Decl {
	for i, d := range m.p {
		if d.Kind == kind && d.Name == name {
			return &m.p[i]
		}
	}
	return nil
}

func widthIn(fields []api.Field, name string) int {
	for _, f := range fields {
		if f.Name == name {
			return f.W
		}
	}
	return -1
}

// fieldWidth is below 0, if there is no such field.
func (m *model) fieldWidth(owner, field string) int {
	if owner != "meta" {
		if d := m.named(api.DeHeader, owner); d != nil {
			return widthIn(d.Fields, field)
		}
		return -1
	}
	all := []api.Field{{Name: "port", W: 16}, {Name: "out", W: 16}}
	for _, d := range m.p {
		if d.Kind == api.DeMeta {
			all = append(all, d.Fields...)
		}
	}
	return widthIn(all, field)
}

func (m *model) expr(x api.Expr) int {
	var of []int
	for _, a := range x.Args {
		of = append(of, m.expr(a))
	}
	wrong := func(is bool, e api.Errno, row string) { m.wrong(is, e, x.Line, row) }
	switch x.Op {
	case api.OpLit:
		return x.Lit.W
	case api.OpField:
		w := m.fieldWidth(x.Name, x.Field)
		wrong(w < 0, api.ErrName, "OpField")
		return w
	case api.OpParam:
		w := widthIn(m.params, x.Name)
		wrong(w < 0, api.ErrName, "OpParam")
		return w
	case api.OpValid:
		wrong(m.named(api.DeHeader, x.Name) == nil, api.ErrName, "OpValid")
		return 1
	case api.OpSlice:
		wrong(x.M > x.N || x.N >= of[0], api.ErrArg, "OpSlice")
		return 1 + x.N - x.M
	case api.OpCast:
		wrong(x.N < 1 || x.N > 128, api.ErrArg, "OpCast")
		return x.N
	case api.OpHash:
		w := map[string]int{"crc16": 16, "crc32": 32, "csum16": 16, "xor16": 16}[x.Name]
		wrong(w == 0, api.ErrName, "OpHash name")
		wrong(len(x.Args) > 64, api.ErrLimit, "OpHash limit")
		return w
	case api.OpAdd, api.OpSub, api.OpMul, api.OpAnd, api.OpOr, api.OpXor:
		wrong(of[0] != of[1], api.ErrWidth, fmt.Sprintf("operation %d", x.Op))
	case api.OpEq, api.OpNe, api.OpLt, api.OpLe:
		wrong(of[0] != of[1], api.ErrWidth, fmt.Sprintf("operation %d", x.Op))
		return 1
	case api.OpCat:
		wrong(of[0]+of[1] > 128, api.ErrWidth, "OpCat")
		return of[0] + of[1]
	case api.OpBoth, api.OpAny:
		wrong(of[0] != 1 || of[1] != 1, api.ErrWidth, fmt.Sprintf("operation %d", x.Op))
		return 1
	}
	return of[0]
}

// exprs has a width for each, and enough behind these to be asked for.
func (m *model) exprs(l []api.Expr) []int {
	var of []int
	for _, x := range l {
		of = append(of, m.expr(x))
	}
	return of
}

func (m *model) stmts(l []api.Stmt, inAction bool, applied *[]string) {
	for _, s := range l {
		m.stmt(s, inAction, applied)
		m.stmts(s.Body, inAction, applied)
		m.stmts(s.Else, inAction, applied)
	}
}

func (m *model) stmt(s api.Stmt, inAction bool, applied *[]string) {
	wrong := func(is bool, e api.Errno, row string) {
		m.wrong(is, e, s.Line, fmt.Sprintf("statement %d: %s", s.Kind, row))
	}
	none := func(kind api.DeclKind, name string) { wrong(m.named(kind, name) == nil, api.ErrName, "name") }
	field := 0
	switch s.Kind {
	case api.StSet, api.StRead, api.StMeter, api.StRandom:
		field = m.fieldWidth(s.Name, s.Field)
		wrong(field < 0, api.ErrName, "field")
	}
	switch s.Kind {
	case api.StSet:
		wrong(m.exprs(s.Args)[0] != field, api.ErrWidth, "width")
	case api.StIf:
		wrong(m.exprs(s.Args)[0] != 1, api.ErrWidth, "width")
	case api.StApply:
		wrong(inAction, api.ErrArg, "in an action")
		none(api.DeTable, s.Name)
		wrong(slices.Contains(*applied, s.Name), api.ErrArg, "ahead")
		*applied = append(*applied, s.Name)
	case api.StCall:
		wrong(inAction, api.ErrArg, "in an action")
		none(api.DeAction, s.Name)
		if d := m.named(api.DeAction, s.Name); d != nil {
			wrong(len(s.Args) != len(d.Fields), api.ErrArg, "args")
			for i, x := range s.Args[:min(len(s.Args), len(d.Fields))] {
				wrong(m.expr(x) != d.Fields[i].W, api.ErrWidth, "width")
			}
		}
	case api.StMake, api.StGone:
		none(api.DeHeader, s.Name)
	case api.StCount:
		none(api.DeCounter, s.Name)
		m.exprs(s.Args)
	case api.StRead:
		none(api.DeRegister, s.Array)
		m.exprs(s.Args)
		if d := m.named(api.DeRegister, s.Array); d != nil {
			wrong(field != d.W, api.ErrWidth, "width")
		}
	case api.StMeter:
		none(api.DeMeter, s.Array)
		m.exprs(s.Args)
		wrong(field != 1, api.ErrWidth, "width")
	case api.StWrite:
		none(api.DeRegister, s.Array)
		value := m.exprs(s.Args)[1]
		if d := m.named(api.DeRegister, s.Array); d != nil {
			wrong(value != d.W, api.ErrWidth, "width")
		}
	case api.StDigest:
		wrong(len(s.Args) > 64, api.ErrLimit, "limit")
		m.exprs(s.Args)
	case api.StClone:
		wrong(s.N > 15, api.ErrArg, "group")
	}
}

func (m *model) decl(d api.Decl) {
	wrong := func(is bool, e api.Errno, row string) {
		m.wrong(is, e, d.Line, fmt.Sprintf("declaration %d: %s", d.Kind, row))
	}
	not := func(n, least, most int, row string) { wrong(n < least || n > most, api.ErrArg, row) }
	m.params = nil
	switch d.Kind {
	case api.DeHeader, api.DeMeta, api.DeAction:
		ahead, together := []string{}, 0
		if d.Kind == api.DeMeta {
			ahead = []string{"port", "out"}
		}
		wrong(d.Kind == api.DeHeader && len(d.Fields) == 0, api.ErrArg, "no field")
		wrong(len(d.Fields) > 64, api.ErrLimit, "limit")
		for _, f := range d.Fields {
			wrong(slices.Contains(ahead, f.Name), api.ErrName, "field ahead")
			not(f.W, 1, 128, "width")
			ahead, together = append(ahead, f.Name), together+f.W
		}
		wrong(d.Kind == api.DeHeader && together%8 != 0, api.ErrArg, "bytes")
		if d.Kind == api.DeAction {
			m.params = d.Fields
			m.stmts(d.Body, true, &[]string{})
		}
	case api.DeRegister:
		not(d.W, 1, 128, "width")
		not(d.N, 1, 4096, "cells")
	case api.DeCounter:
		not(d.N, 1, 4096, "cells")
	case api.DeMeter:
		not(d.N, 1, 4096, "cells")
		not(d.Rate, 0, 65535, "rate")
		not(d.Burst, 1, 65535, "burst")
	case api.DeParser:
		m.parser(d)
	case api.DeTable:
		m.table(d, wrong)
	case api.DeControl:
		m.stmts(d.Body, false, &[]string{})
	case api.DeDeparser:
		for i, h := range d.Emits {
			wrong(m.named(api.DeHeader, h) == nil, api.ErrName, "name")
			wrong(slices.Contains(d.Emits[:i], h), api.ErrName, "ahead")
		}
	}
}

func (m *model) parser(d api.Decl) {
	names := []string{"accept", "reject"}
	for _, s := range d.States {
		m.wrong(slices.Contains(names, s.Name), api.ErrName, s.Line, "state ahead")
		names = append(names, s.Name)
	}
	m.wrong(!slices.Contains(names, "start"), api.ErrName, d.Line, "no start")
	for _, s := range d.States {
		for _, h := range s.Headers {
			m.wrong(m.named(api.DeHeader, h) == nil, api.ErrName, s.Line, "state: header")
		}
		w := m.exprs(s.Select)
		for _, c := range s.Cases {
			m.wrong(c.Value.W != w[0], api.ErrWidth, s.Line, "case: value")
			m.wrong(c.Mask.W != w[0], api.ErrWidth, s.Line, "case: mask")
			m.wrong(!slices.Contains(names, c.To), api.ErrName, s.Line, "case: target")
		}
		m.wrong(!slices.Contains(names, s.To), api.ErrName, s.Line, "state: target")
	}
}

func (m *model) table(d api.Decl, wrong func(bool, api.Errno, string)) {
	wrong(len(d.Keys) > 64, api.ErrLimit, "keys")
	prefix := false
	for _, k := range d.Keys {
		m.expr(k.Expr)
		wrong(prefix && k.Kind == api.KePrefix, api.ErrArg, "second prefix")
		prefix = prefix || k.Kind == api.KePrefix
	}
	for i, a := range d.Actions {
		wrong(m.named(api.DeAction, a) == nil, api.ErrName, "action")
		wrong(slices.Contains(d.Actions[:i], a), api.ErrName, "action ahead")
	}
	wrong(!slices.Contains(d.Actions, d.Default), api.ErrName, "default")
	if a := m.named(api.DeAction, d.Default); a != nil {
		wrong(len(d.Args) != len(a.Fields), api.ErrArg, "args")
		for i, b := range d.Args[:min(len(d.Args), len(a.Fields))] {
			wrong(b.W != a.Fields[i].W, api.ErrWidth, "arg's width")
		}
	}
	wrong(d.N < 1 || d.N > 4096, api.ErrArg, "size")
}

// holds asks for what the model says of a program, and tells that.
func holds(t *testing.T, p api.Program) fault {
	t.Helper()
	want := modelCheck(p)
	if line, e := types.Check(p); line != want.line || e != want.e {
		t.Fatalf("Check(%.4000s) = %d, %d, want %+v", told(p), line, e, want)
	}
	return want
}

// copied is a copy of its own, each list with so much spare room.
func copied[T any](x T, spare int) T {
	v := copiedValue(reflect.ValueOf(&x).Elem(), spare)
	return v.Interface().(T)
}

func copiedValue(v reflect.Value, spare int) reflect.Value {
	out := reflect.New(v.Type()).Elem()
	switch v.Kind() {
	case reflect.Slice:
		if v.Len()+spare > 0 {
			out.Set(reflect.MakeSlice(v.Type(), v.Len(), v.Len()+spare))
		}
		for i := range v.Len() {
			out.Index(i).Set(copiedValue(v.Index(i), spare))
		}
	case reflect.Struct:
		for i := range v.NumField() {
			out.Field(i).Set(copiedValue(v.Field(i), spare))
		}
	default:
		out.Set(v)
	}
	return out
}
