package rules_test

import (
	"math/rand/v2"
	"reflect"
	"testing"

	"pointsman/api"
	"pointsman/types"
)

// anything lays whatever comes up into v.
func anything(r *rand.Rand, v reflect.Value, deep int) {
	switch v.Kind() {
	case reflect.Struct:
		for i := range v.NumField() {
			anything(r, v.Field(i), deep)
		}
	case reflect.Slice:
		n := r.IntN(4)
		if deep == 0 {
			n = 0
		}
		v.Set(reflect.MakeSlice(v.Type(), n, n))
		for i := range n {
			anything(r, v.Index(i), deep-1)
		}
	default:
		if r.IntN(2) == 0 {
			spoil(r, v)
		}
	}
}

// whatever is a value of that type.
func whatever[T any](r *rand.Rand) T {
	var x T
	anything(r, reflect.ValueOf(&x).Elem(), 4)
	return x
}

// TestAnything: whatever is handed in, each call ends, and beside an error there is nothing.
func TestAnything(t *testing.T) { // R1, R2
	t.Parallel()
	r := dice(5)
	fine, wrong := 0, 0
	for range 4000 {
		m := made(t, r)
		w := m.world(t)
		p, l, q := copied(m.p, 0), m.batch(w, true), m.request()
		switch r.IntN(4) {
		case 0:
			spoil(r, reflect.ValueOf(&p).Elem())
		case 1:
			w, l, q = whatever[api.World](r), whatever[[]api.Update](r), whatever[api.Request](r)
		case 2:
			l, q = append(l, whatever[[]api.Update](r)...), whatever[api.Request](r)
		default:
			p = whatever[api.Program](r)
		}
		_, e := types.Check(p)
		if e == api.OK {
			fine++
		} else {
			wrong++
		}
		a, b, c := table(p, "t0"), write(p, w, l...), read(p, w, q)
		if e != api.OK && (a.E != e || b.E != e || b.At != 0 || c.E != e) {
			t.Fatalf("%d: %d, %d at %d, %d: of %.2000s", e, a.E, b.E, b.At, c.E, told(p))
		}
		if a.E != api.OK && !same(a, tabled{E: a.E}) || b.E != api.OK && !same(b, written{At: b.At, E: b.E}) || c.E != api.OK && !same(c, answered{E: c.E}) {
			t.Fatalf("beside an error: %+v, %.2000s, %+v", a, told(b), c)
		}
		if b.At < 0 || b.At > 0 && b.At >= len(l) {
			t.Fatalf("at %d of %d", b.At, len(l))
		}
	}
	if fine < 1000 || wrong < 1000 {
		t.Errorf("the sample says too little: %d programs, %d that are none", fine, wrong)
	}
}
