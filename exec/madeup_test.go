package exec_test

import (
	"fmt"
	"slices"
	"testing"

	"pointsman/api"
	"pointsman/lower"
)

// TestMadeUpPrograms: passes of many packets through the code of many programs, one behind the other in one world.
func TestMadeUpPrograms(t *testing.T) { // P16.1, P16.2
	t.Parallel()
	r := dice(1)
	seen := map[string]int{}
	for n := range 900 {
		m := made(r, n%50, n%4 == 0)
		c, e := lower.Code(m.p)
		if e == api.ErrLimit {
			continue
		}
		w := m.world()
		for range 6 {
			h := handed{m.p, c, w, r.IntN(65536), m.bytes()}
			got := sameRun(t, h)
			lookAlike(t, r, h, got, 3)
			note(seen, got)
			w = got.World
			w.Now += r.IntN(3)
		}
	}
	for _, k := range []string{"end 1", "end 2", "end 3", "end 4", "end 5", "fixed true", "fixed false", "port true", "port false", "effect 1", "effect 2", "effect 3", "effect 4", "effect 5", "effect 6", "effect 7", "effect 8", "hit true", "hit false"} {
		if seen[k] < 10 {
			t.Errorf("the sample says too little of %q: %d", k, seen[k])
		}
	}
}

// note counts what came about.
func note(seen map[string]int, got answered) {
	seen[fmt.Sprint("end ", got.Pass.End)]++
	seen[fmt.Sprint("fixed ", got.Seen.Fixed)]++
	seen[fmt.Sprint("port ", got.Seen.Port)]++
	for _, e := range got.Pass.Effects {
		seen[fmt.Sprint("effect ", e.Kind)]++
		if e.Kind == api.EfHit {
			seen[fmt.Sprint("hit ", e.Entry >= 0)]++
		}
	}
}

// TestLookAlike: of passes of which nearly all are fixed, many other packets that look the same.
func TestLookAlike(t *testing.T) { // P16.2
	t.Parallel()
	r := dice(2)
	alike, looked, ports := 0, 0, 0
	for n := range 700 {
		m := made(r, 10+n%50, true)
		c, e := lower.Code(m.p)
		if e == api.ErrLimit {
			continue
		}
		for range 6 {
			h := handed{m.p, c, m.world(), r.IntN(65536), m.bytes()}
			got := sameRun(t, h)
			alike += lookAlike(t, r, h, got, 8)
			if slices.ContainsFunc(got.Seen.Mask, func(b byte) bool { return b != 0 }) {
				looked++
			}
			if got.Seen.Port {
				ports++
			}
		}
	}
	if alike < 10000 || looked < 300 || ports < 100 {
		t.Errorf("the sample says too little: %d packets look alike, %d passes looked at bits, %d at the port", alike, looked, ports)
	}
}
