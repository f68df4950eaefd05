package types

import (
	"errors"
	"testing"

	"pointsman/api"
)

// wrapped is an error around another.
type wrapped struct{ error }

func (w wrapped) Unwrap() error { return w.error }

// TestCaught: a fault is told, also from within another error; whatever else leaves is caught too.
func TestCaught(t *testing.T) { // R1
	var none map[string]int
	for _, c := range []struct {
		do   func()
		line int
		want api.Errno
	}{
		{func() {}, 0, api.OK},
		{func() { must(true, api.ErrName, 3) }, 0, api.OK},
		{func() { must(false, api.ErrName, 3) }, 3, api.ErrName},
		{func() { panic(fault{api.ErrWidth, -4}) }, -4, api.ErrWidth},
		{func() { panic(wrapped{fault{api.ErrLimit, 5}}) }, 5, api.ErrLimit},
		{func() { panic(errors.New("other")) }, 0, api.ErrArg},
		{func() { panic("other") }, 0, api.ErrArg},
		{func() { none["a"] = 1 }, 0, api.ErrArg},
	} {
		if line, e := caught(c.do); line != c.line || e != c.want {
			t.Errorf("caught = %d, %d, want %d, %d", line, e, c.line, c.want)
		}
	}
	if s := (fault{api.ErrName, 3}).Error(); s != "pointsman: 6 in line 3" {
		t.Errorf("Error = %q", s)
	}
}

// TestMostParts: beyond the document's bound an expression is left. One that would come so far by itself takes minutes.
func TestMostParts(t *testing.T) { // R1
	s := &scope{parts: mostParts - 1}
	x := api.Expr{Op: api.OpLit, Lit: api.Bits{W: 8}, Line: 7}
	for _, want := range []fault{{}, {api.ErrLimit, 7}} {
		if line, e := caught(func() { s.expr(&x) }); line != want.line || e != want.number {
			t.Errorf("caught = %d, %d, want %+v", line, e, want)
		}
	}
}
