package exec_test

import (
	"reflect"
	"sync"
	"testing"

	"pointsman/api"
	"pointsman/exec"
	"pointsman/lower"
	"pointsman/source"
)

// TestMemory: what is handed in stays as it was, its spare room too, and is not kept; answers are memory of their own.
func TestMemory(t *testing.T) { // R4, R5
	t.Parallel()
	r := dice(7)
	done := 0
	for n := range 600 {
		m := made(r, n%40, n%3 == 0)
		c, _ := lower.Code(m.p)
		plain := handed{m.p, c, m.world(), r.IntN(65536), m.bytes()}
		switch n % 10 {
		case 0:
			spoil(r, reflect.ValueOf(&plain.W).Elem())
		case 5:
			plain.C = copied(plain.C, 0)
			spoil(r, reflect.ValueOf(&plain.C).Elem())
		}
		want := copied(plain.run(), 0)
		given := copied(plain, 2)
		filled(reflect.ValueOf(&given).Elem())
		before := roomOf(reflect.ValueOf(given))
		first, second := given.run(), given.run()
		if !same(first, want) || !same(second, want) {
			t.Fatalf("Run(%.4000s) = %.4000s and %.4000s, want %.4000s", told(plain), told(first), told(second), told(want))
		}
		if !apart(given, first, second) {
			t.Fatalf("lists share memory: Run(%.4000s)", told(plain))
		}
		overwrite(reflect.ValueOf(&first).Elem())
		if !same(second, want) || !reflect.DeepEqual(roomOf(reflect.ValueOf(given)), before) {
			t.Fatalf("what was handed in, or another answer, is changed: Run(%.4000s)", told(plain))
		}
		overwrite(reflect.ValueOf(&given).Elem())
		if !same(second, want) {
			t.Fatalf("an answer changes with what was handed in: Run(%.4000s)", told(plain))
		}
		if want.E == api.OK {
			done++
		}
	}
	if done < 400 {
		t.Errorf("only %d calls had an answer", done)
	}
}

// TestEmpty: empty lists and none mean the same.
func TestEmpty(t *testing.T) { // R4
	r := dice(8)
	for n := range 500 {
		m := made(r, n%40, n%3 == 0)
		c, _ := lower.Code(m.p)
		none := copied(handed{m.p, c, m.world(), r.IntN(65536), m.bytes()}, 0)
		empty := copied(none, 0)
		emptied(reflect.ValueOf(&empty).Elem())
		if a, b := none.run(), empty.run(); !same(a, b) {
			t.Fatalf("Run(%.4000s) = %.4000s, with empty lists %.4000s", told(none), told(a), told(b))
		}
	}
}

func TestManyAtOnce(t *testing.T) { // R5
	p, c := of(t, every)
	h := handed{p, c, (&maker{Rand: dice(9), p: p}).world(), 3, []byte{1, 2, 3, 4, 5, 6, 7, 8, 9}}
	want := h.run()
	var group sync.WaitGroup
	for range 16 {
		group.Go(func() {
			for range 20 {
				if got := h.run(); got.E != api.OK || !same(got, want) {
					t.Errorf("Run = %+v", got)
				}
			}
		})
	}
	group.Wait()
}

func BenchmarkRun(b *testing.B) {
	p, c, _, _ := lower.Of(every)
	w, _ := source.New(p)
	for b.Loop() {
		exec.Run(p, c, w, 3, []byte{1, 2, 3, 4, 5, 6, 7, 8, 9})
	}
}
