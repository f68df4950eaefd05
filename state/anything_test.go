package state_test

import (
	"bytes"
	"math/rand/v2"
	"reflect"
	"testing"

	"pointsman/api"
	"pointsman/state"
)

// anything lays whatever comes up into v.
func anything(r *rand.Rand, v reflect.Value, deep int) {
	switch v.Kind() {
	case reflect.Struct:
		for i := range v.NumField() {
			anything(r, v.Field(i), deep)
		}
	case reflect.Slice:
		n := r.IntN(4)
		if deep == 0 {
			n = 0
		}
		v.Set(reflect.MakeSlice(v.Type(), n, n))
		for i := range n {
			anything(r, v.Index(i), deep-1)
		}
	default:
		if r.IntN(2) == 0 {
			spoil(r, v)
		}
	}
}

// whatever is a value of that type.
func whatever[T any](r *rand.Rand) T {
	var x T
	anything(r, reflect.ValueOf(&x).Elem(), 4)
	return x
}

// TestAnything: whatever is handed in, each call ends, and what is refused changes nothing.
func TestAnything(t *testing.T) { // R1, R2
	t.Parallel()
	r := dice(4)
	seen := map[api.Errno]int{}
	for n := range 300 {
		text := texts()[n%len(texts())]
		s, d := stateWith(t, 100000, text)
		if n%7 == 0 {
			s, d = stateWith(t, 100000, "")
		}
		for range 10 {
			q := whatever[api.Request](r)
			if r.IntN(2) == 0 {
				q = write(q.Updates...)
			}
			was, kept := look(s), d.Bytes()
			got := do(s, q)
			if got.E != api.OK && !same(got, done{E: got.E}) || len(got.Reply.Entries) > 0 || got.Reply.Value != (api.Bits{}) || got.Reply.Error == api.OK && got.Reply.At != 0 {
				t.Fatalf("Do(%.3000s) = %+v", told(q), got)
			}
			if !same(got, done{}) && (!same(look(s), was) || !bytes.Equal(d.Bytes(), kept)) {
				t.Fatalf("Do(%.3000s) = %+v changes something", told(q), got)
			}
			seen[got.E]++
			w := whatever[api.World](r)
			if r.IntN(2) == 0 {
				w = s.World()
				spoil(r, reflect.ValueOf(&w).Elem())
			}
			was = look(s)
			if e := s.Set(w); e != api.OK && (e != api.ErrArg || !same(look(s), was)) {
				t.Fatalf("Set(%.3000s) = %d", told(w), e)
			}
			s.Tick(whatever[int](r))
		}
	}
	if seen[api.OK] < 500 || seen[api.ErrArg] < 500 {
		t.Errorf("the sample says too little: %v", seen)
	}
}

// TestAnyBytes: whatever is on a disk, Open ends: with a state or with ErrForm.
func TestAnyBytes(t *testing.T) { // P20.1, R1
	t.Parallel()
	r := dice(5)
	good := recorded(t, install(three))[8:]
	seen := map[api.Errno]int{}
	for n := range 3000 {
		b := make([]byte, r.IntN(200))
		for i := range b {
			b[i] = byte(r.Uint32())
		}
		switch n % 3 {
		case 0:
			// A record, whatever is in it.
			b = record(t, append(b, byte(n)))
		case 1:
			// Requests of which a few bytes are others, each in its frame.
			b = nil
			for range 1 + r.IntN(3) {
				x := bytes.Clone(recorded(t, pick(r, []api.Request{install(three), write(groups(3)...), insertFive(), install(chapter)}))[8:])
				if r.IntN(3) == 0 {
					x[r.IntN(len(x))] ^= 1 << r.IntN(8)
				}
				b = append(b, record(t, x)...)
			}
		default:
			// A part of a request.
			b = append(record(t, good[:1+r.IntN(len(good))]), b...)
		}
		s, e := state.Open(laid(t, b))
		if (e == api.OK) != (s != nil) || e != api.OK && e != api.ErrForm {
			t.Fatalf("Open of %x: %v, %d", b, s, e)
		}
		seen[e]++
	}
	if seen[api.OK] < 200 || seen[api.ErrForm] < 1000 {
		t.Errorf("the sample says too little: %v", seen)
	}
}
