package cache_test

import (
	"reflect"
	"sync"
	"testing"

	"pointsman/api"
	"pointsman/cache"
	"pointsman/exec"
	"pointsman/lower"
	"pointsman/source"
)

// TestMemory: what is handed in stays as it was, its spare room too, and is kept but by its content; answers are memory of their own.
func TestMemory(t *testing.T) { // R4, R5
	t.Parallel()
	r := dice(4)
	hits, errors := 0, 0
	for n := range 250 {
		p, c, w := of(t, text(r))
		plain := handed{p, c, rows(r, p, cells(r, w)), r.IntN(3), packet(r), 0}
		if n%10 == 0 {
			plain.W.Now = -1
		}
		want, _ := plain.plain()
		b := begin(t, n%3)
		given := copied(plain, 2)
		before := whole(given)
		first, second := given.run(b.c), given.run(b.c)
		if !same(first, want) || !same(second, want) {
			t.Fatalf("Run(%.3000s) = %.3000s and %.3000s, want %.3000s", told(plain), told(first), told(second), told(want))
		}
		if !apart(given, first, second) {
			t.Fatalf("lists share memory: Run(%.3000s)", told(plain))
		}
		overwrite(reflect.ValueOf(&first).Elem())
		if !same(second, want) || !reflect.DeepEqual(whole(given), before) {
			t.Fatalf("what was handed in, or another answer, is changed: Run(%.3000s)", told(plain))
		}
		overwrite(reflect.ValueOf(&given).Elem())
		if !same(second, want) {
			t.Fatalf("an answer changes with what was handed in: Run(%.3000s)", told(plain))
		}
		overwrite(reflect.ValueOf(&second).Elem())
		// What is kept is what was asked, not what stands in its place now.
		was := b.c.Hits()
		if third := plain.run(b.c); !same(third, want) || b.c.Hits() != 2*was {
			t.Fatalf("%d hits, and then %d: Run(%.3000s) = %.3000s, want %.3000s", was, b.c.Hits(), told(plain), told(third), told(want))
		}
		given.run(b.c)
		hits += was
		if want.E != api.OK {
			errors++
		}
	}
	if hits < 60 || errors < 20 {
		t.Errorf("the sample says too little: %d hits, %d errors", hits, errors)
	}
}

// TestEmpty: empty lists and none mean the same: what was asked with the ones is a hit with the others.
func TestEmpty(t *testing.T) { // R4
	r := dice(5)
	hits := 0
	for range 150 {
		p, c, w := of(t, text(r))
		none := copied(handed{p, c, rows(r, p, w), r.IntN(3), packet(r), 0}, 0)
		empty := copied(none, 0)
		emptied(reflect.ValueOf(&empty).Elem())
		want, seen := none.plain()
		for _, l := range [][]handed{{none, empty}, {empty, none}} {
			b := begin(t, 1)
			if !same(l[0].run(b.c), want) || !same(l[1].run(b.c), want) || (b.c.Hits() == 1) != seen.Fixed {
				t.Fatalf("%d hits, fixed %v: Run(%.3000s)", b.c.Hits(), seen.Fixed, told(none))
			}
			hits += b.c.Hits()
		}
	}
	if hits < 100 {
		t.Errorf("only %d hits", hits)
	}
}

// TestTwoCaches: they share nothing, though they are asked the same; many at once.
func TestTwoCaches(t *testing.T) { // R5
	r := dice(6)
	p, c, w := of(t, text(r))
	w = rows(r, p, w)
	var packets [][]byte
	for range 40 {
		packets = append(packets, packet(r))
	}
	var group sync.WaitGroup
	for room := range 8 {
		group.Go(func() {
			b := begin(t, room)
			for i, data := range packets {
				h := handed{p, c, w, i % 3, data, i}
				got, want := h.run(b.c), b.m.run(h)
				if !same(got, want) || b.c.Len() != len(b.m.passes) || b.c.Hits() != b.m.hits {
					t.Errorf("room %d: %.2000s, want %.2000s", room, told(got), told(want))
				}
			}
		})
	}
	group.Wait()
}

// manyRows is a program with a table in which so many entries stand, and a pass that hits the last one.
func manyRows() handed {
	p, c, _, _ := lower.Of("header h { a 16; } action n() { } action o(q 16) { meta.out = q; } table t { key { h.a mask; } actions n o; default n(); size 4096; } parser { start { take h; go accept; } } control { apply t; } deparser { h; }")
	w, _ := source.New(p)
	for i := range uint64(api.MaxCells) {
		w.Tables[0].Entries = append(w.Tables[0].Entries, api.Entry{Matches: []api.Match{{Value: api.Bits{W: 16, Lo: i}, Mask: api.Bits{W: 16, Lo: 65535}}}, Priority: 1, Action: "o", Args: []api.Bits{{W: 16, Lo: i}}})
	}
	return handed{p, c, w, 3, []byte{15, 255}, 0}
}

// TestManyRows: a table that has as many entries as it may have.
func TestManyRows(t *testing.T) { // P18.2
	h := manyRows()
	b := begin(t, 3)
	for round := range 2 {
		for _, a := range []byte{255, 254, 0} {
			h.B[1] = a
			if hit := b.hits(h); hit != (round > 0) {
				t.Errorf("%d: a hit %v", a, hit)
			}
		}
	}
	h.W = copied(h.W, 0)
	h.W.Tables[0].Entries[4095].Args[0].Lo = 7
	h.B[1] = 255
	if b.hits(h) {
		t.Error("a hit with another row")
	}
}

func BenchmarkHit(b *testing.B) {
	h := manyRows()
	c, _ := cache.New(1)
	for b.Loop() {
		h.run(c)
	}
	if c.Hits() == 0 && b.N > 1 {
		b.Error("no hits")
	}
}

func BenchmarkExec(b *testing.B) {
	h := manyRows()
	for b.Loop() {
		exec.Run(h.P, h.C, h.W, h.Port, h.B)
	}
}
