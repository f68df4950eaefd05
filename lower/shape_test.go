package lower_test

import (
	"reflect"
	"slices"
	"testing"

	"pointsman/api"
	"pointsman/code"
	"pointsman/lower"
	"pointsman/types"
)

// same: the same content; empty lists and nil are alike.
func same[T any](a, b T) bool { return reflect.DeepEqual(plain(a), plain(b)) }

// copied is a copy of its own, each list with so much spare room; with none, empty ones are nil.
func copied[T any](x T, spare int) T {
	return copiedValue(reflect.ValueOf(&x).Elem(), spare).Interface().(T)
}

func copiedValue(v reflect.Value, spare int) reflect.Value {
	out := reflect.New(v.Type()).Elem()
	switch v.Kind() {
	case reflect.Slice:
		if v.Len()+spare > 0 {
			out.Set(reflect.MakeSlice(v.Type(), v.Len(), v.Len()+spare))
		}
		for i := range v.Len() {
			out.Index(i).Set(copiedValue(v.Index(i), spare))
		}
	case reflect.Struct:
		for i := range v.NumField() {
			out.Field(i).Set(copiedValue(v.Field(i), spare))
		}
	default:
		out.Set(v)
	}
	return out
}

// coded is the code of a program that may be: it can do no harm, and has all that the program has.
func coded(t *testing.T, p api.Program) api.Code {
	t.Helper()
	c, e := lower.Code(p)
	if e != api.OK {
		t.Fatalf("Code(%.4000s) = %d", told(p), e)
	}
	if e := code.Check(c); e != api.OK {
		t.Fatalf("Code(%.4000s) = %.4000s, of which Check says %d", told(p), told(c), e)
	}
	shapeIs(t, p, c)
	return c
}

// widthsOf are those of slots.
func widthsOf(c api.Code, slots []int) []int {
	var l []int
	for _, s := range slots {
		l = append(l, c.Slots[s])
	}
	return l
}

func fieldWidths(fields []api.Field) []int {
	var l []int
	for _, f := range fields {
		l = append(l, f.W)
	}
	return l
}

// shapeIs asks for all that P11.1 says code has of its program.
func shapeIs(t *testing.T, p api.Program, c api.Code) {
	t.Helper()
	var want, got api.Code
	var heads, params, keys [][]int
	var names, acts, emits []string
	meta := []int{16, 16}
	states := 0
	for _, d := range p {
		switch d.Kind {
		case api.DeHeader:
			names, heads = append(names, d.Name), append(heads, fieldWidths(d.Fields))
		case api.DeMeta:
			meta = append(meta, fieldWidths(d.Fields)...)
		case api.DeRegister:
			want.Arrays = append(want.Arrays, api.Arr{Name: d.Name, Kind: d.Kind, W: d.W})
		case api.DeCounter, api.DeMeter:
			want.Arrays = append(want.Arrays, api.Arr{Name: d.Name, Kind: d.Kind, W: 64})
		case api.DeAction:
			acts, params = append(acts, d.Name), append(params, fieldWidths(d.Fields))
		case api.DeDeparser:
			emits = d.Emits
		case api.DeParser:
			states = len(d.States)
		}
	}
	for _, d := range p {
		if d.Kind == api.DeTable {
			table, widths := tableOf(t, p, d, acts)
			want.Tables, keys = append(want.Tables, table), append(keys, widths)
		}
	}
	for _, name := range emits {
		want.Emits = append(want.Emits, slices.Index(names, name))
	}
	got.Arrays, got.Emits = c.Arrays, c.Emits
	for i, tab := range c.Tables {
		if i >= len(keys) || !slices.Equal(widthsOf(c, tab.Keys), keys[i]) {
			t.Fatalf("keys of the table %d of the code of %.4000s: %+v", i, told(p), tab)
		}
		tab.Keys, tab.Before = nil, nil
		got.Tables = append(got.Tables, tab)
	}
	if !same(got, want) {
		t.Fatalf("the code of %.4000s has\n%+v, not\n%+v", told(p), got, want)
	}
	ok := len(c.Heads) == len(heads) && len(c.Acts) == len(acts) && len(c.States) == states && slices.Equal(widthsOf(c, c.Meta), meta)
	for i := range min(len(heads), len(c.Heads)) {
		ok = ok && slices.Equal(widthsOf(c, c.Heads[i].Slots), heads[i])
	}
	for i := range min(len(acts), len(c.Acts)) {
		ok = ok && c.Acts[i].Name == acts[i] && slices.Equal(widthsOf(c, c.Acts[i].Params), params[i])
	}
	if !ok {
		t.Fatalf("heads, metadata, acts or states of the code of %.4000s: %.4000s", told(p), told(c))
	}
}

// tableOf is a table of the code, without its keys and what makes them; and how wide these are.
func tableOf(t *testing.T, p api.Program, d api.Decl, acts []string) (api.Table, []int) {
	t.Helper()
	want := api.Table{Name: d.Name, Default: slices.Index(acts, d.Default), Args: d.Args, Size: d.N}
	for _, a := range d.Actions {
		want.Actions = append(want.Actions, slices.Index(acts, a))
	}
	var widths []int
	for _, k := range d.Keys {
		want.Kinds = append(want.Kinds, k.Kind)
		w, e := types.Width(p, nil, k.Expr)
		if e != api.OK {
			t.Fatalf("Width(%s) = %d", told(k), e)
		}
		widths = append(widths, w)
	}
	return want, widths
}
