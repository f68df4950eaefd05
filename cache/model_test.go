package cache_test

import (
	"fmt"
	"math"
	"math/rand/v2"
	"slices"
	"testing"

	"pointsman/api"
	"pointsman/cache"
	"pointsman/exec"
	"pointsman/lower"
)

// handed is all that a call of Run is handed.
type handed struct {
	P    api.Program
	C    api.Code
	W    api.World
	Port int
	B    []byte
	Pick int
}

// answered is all that it answers.
type answered struct {
	Pass  api.Pass
	World api.World
	E     api.Errno
}

func (h handed) run(c *cache.Cache) answered {
	pass, behind, e := c.Run(h.P, h.C, h.W, h.Port, h.B, h.Pick)
	return answered{pass, behind, e}
}

// plain is what exec.Run says.
func (h handed) plain() (answered, exec.Seen) {
	pass, behind, seen, e := exec.Run(h.P, h.C, h.W, h.Port, h.B)
	return answered{pass, behind, e}, seen
}

// ground tells what must be the same. Empty lists and none are told alike.
func (h handed) ground() string { return told(h.P) + told(h.C) + told(h.W.Tables) }

// model is a cache that always asks exec.Run, and only tells what would be kept.
type model struct {
	room, hits, gone int
	passes           []pass
}

type pass struct {
	ground string
	seen   exec.Seen
	port   int
	bytes  []byte
}

func (k pass) looksLike(h handed, ground string) bool {
	if k.ground != ground || len(h.B)*8 < k.seen.Least || k.seen.Port && k.port != h.Port {
		return false
	}
	for i := range 8 * len(k.seen.Mask) {
		at, bit := i/8, byte(0x80)>>(i%8)
		if k.seen.Mask[at]&bit != 0 && (at >= len(h.B) || k.bytes[at]&bit != h.B[at]&bit) {
			return false
		}
	}
	return true
}

func (m *model) run(h handed) answered {
	want, seen := h.plain()
	if want.E != api.OK {
		return want
	}
	ground := h.ground()
	if slices.ContainsFunc(m.passes, func(k pass) bool { return k.looksLike(h, ground) }) {
		m.hits++
		return want
	}
	if !seen.Fixed || m.room == 0 {
		return want
	}
	if n := len(m.passes); n == m.room {
		at := 0
		if h.Pick > 0 {
			at = h.Pick % n
		}
		m.passes = append(slices.Clone(m.passes[:at]), m.passes[at+1:]...)
		m.gone++
	}
	m.passes = append(m.passes, pass{ground, seen, h.Port, slices.Clone(h.B)})
	return want
}

// both are a cache and its model, that are asked the same.
type both struct {
	t *testing.T
	c *cache.Cache
	m *model
}

func begin(t *testing.T, room int) both {
	t.Helper()
	c, e := cache.New(room)
	if e != api.OK || c == nil {
		t.Fatalf("New(%d): %d", room, e)
	}
	return both{t, c, &model{room: room}}
}

// run asks that the cache answers what the model does, and keeps as many passes.
func (b both) run(h handed) answered {
	b.t.Helper()
	hits := b.m.hits
	got, want := h.run(b.c), b.m.run(h)
	if !same(got, want) {
		b.t.Fatalf("Run says %.3000s\nwant %.3000s\na hit: %v\nprogram %.3000s\nworld %.3000s\npacket %x from %d", told(got), told(want), b.m.hits > hits, told(h.P), told(h.W), h.B, h.Port)
	}
	b.counts()
	return got
}

func (b both) counts() {
	b.t.Helper()
	if b.c.Len() != len(b.m.passes) || b.c.Hits() != b.m.hits {
		b.t.Fatalf("Len %d, Hits %d, want %d, %d", b.c.Len(), b.c.Hits(), len(b.m.passes), b.m.hits)
	}
}

func (b both) clear() {
	b.t.Helper()
	if e := b.c.Clear(); e != api.OK {
		b.t.Fatalf("Clear: %d", e)
	}
	b.m.passes = nil
	b.counts()
}

// hits asks, and says whether it was a hit.
func (b both) hits(h handed) bool {
	b.t.Helper()
	hits := b.m.hits
	b.run(h)
	return b.m.hits > hits
}

func anyPick(r *rand.Rand) int {
	return pick(r, []int{0, 0, 1, 2, r.IntN(10), r.IntN(1000), -1, -r.IntN(1000), math.MaxInt, math.MinInt})
}

// TestMadeUp: of programs that are made up, passes in an order that is, with rows, cells and groups that change in between.
func TestMadeUp(t *testing.T) { // P18.2, P18.3, P18.4
	t.Parallel()
	r := dice(1)
	seen := map[string]int{}
	for n := range 120 {
		b := begin(t, pick(r, []int{0, 1, 2, 3, 5, 20, api.MaxCache}))
		var l []handed
		for range 1 + r.IntN(3) {
			p, c, w := of(t, text(r))
			for range 1 + r.IntN(3) {
				l = append(l, handed{P: p, C: c, W: rows(r, p, cells(r, w))})
			}
		}
		for range 60 {
			h := &l[r.IntN(len(l))]
			h.Port, h.B, h.Pick = r.IntN(3), packet(r), anyPick(r)
			got := b.run(*h)
			note(seen, got, b.m)
			switch r.IntN(8) {
			case 0:
				h.W = cells(r, h.W)
			case 1, 2, 3, 4, 5:
				h.W = got.World
			}
			if n%4 == 0 && r.IntN(25) == 0 {
				b.clear()
			}
		}
		seen["gone"] += b.m.gone
	}
	for _, k := range []string{"end 1", "end 2", "end 3", "end 4", "end 5", "effect 1", "effect 2", "effect 3", "effect 4", "effect 5", "effect 6", "effect 7", "effect 8", "hit true", "hit false", "hits", "gone", "too long"} {
		if seen[k] < 10 {
			t.Errorf("the sample says too little of %q: %d", k, seen[k])
		}
	}
}

// note counts what came about.
func note(seen map[string]int, got answered, m *model) {
	seen[fmt.Sprint("end ", got.Pass.End)]++
	for _, e := range got.Pass.Effects {
		seen[fmt.Sprint("effect ", e.Kind)]++
		if e.Kind == api.EfHit {
			seen[fmt.Sprint("hit ", e.Entry >= 0)]++
		}
	}
	if got.Pass.End == api.EndDropped && len(got.Pass.Packet) == 0 {
		seen["too long"]++
	}
	seen["hits"] += m.hits
}

// TestTwice: what is asked twice, one behind the other, is a hit, if the first was fixed or a hit itself.
func TestTwice(t *testing.T) { // P18.4
	t.Parallel()
	r := dice(2)
	fixed, others := 0, 0
	for range 60 {
		p, c, w := of(t, text(r))
		caches := []both{begin(t, 0), begin(t, 1), begin(t, 2), begin(t, api.MaxCache)}
		for range 10 {
			h := handed{p, c, rows(r, p, cells(r, w)), r.IntN(3), packet(r), anyPick(r)}
			_, seen := h.plain()
			for _, b := range caches {
				first := b.hits(h)
				h.Pick = anyPick(r)
				if again := b.hits(h); again != (b.m.room > 0 && (first || seen.Fixed)) {
					t.Fatalf("room %d, fixed %v, at first a hit %v, and then %v", b.m.room, seen.Fixed, first, again)
				}
			}
			if seen.Fixed {
				fixed++
			} else {
				others++
			}
		}
	}
	if fixed < 100 || others < 100 {
		t.Errorf("the sample says too little: %d are fixed, %d not", fixed, others)
	}
}

// mixed is code with some of its instructions left out, laid elsewhere, or laid there, too.
func mixed(r *rand.Rand, c api.Code) api.Code {
	c.Main = slices.Clone(c.Main)
	for range 1 + r.IntN(4) {
		if len(c.Main) == 0 {
			break
		}
		from := r.IntN(len(c.Main))
		i := c.Main[from]
		if r.IntN(3) == 0 {
			c.Main = slices.Delete(c.Main, from, from+1)
		}
		if r.IntN(3) > 0 {
			c.Main = slices.Insert(c.Main, r.IntN(len(c.Main)+1), i)
		}
	}
	for at := range c.Main {
		if i := &c.Main[at]; i.Op == api.InJump || i.Op == api.InUnless {
			i.N = min(max(i.N, at+1), len(c.Main))
		}
	}
	return c
}

// TestOtherCode: code of a program with the same tables, arrays and actions goes with the world, too. It comes to what exec.Run says, whatever was kept of the program's own.
func TestOtherCode(t *testing.T) { // P18.2
	t.Parallel()
	r := dice(3)
	seen := map[string]int{}
	for range 100 {
		p, own, w := of(t, text(r))
		codes := []api.Code{own, own, {}}
		for range 3 {
			_, c, _ := of(t, text(r))
			codes = append(codes, c, mixed(r, own))
		}
		for _, without := range []api.DeclKind{api.DeParser, api.DeControl, api.DeDeparser} {
			c, _ := lower.Code(slices.DeleteFunc(slices.Clone(p), func(d api.Decl) bool { return d.Kind == without }))
			codes = append(codes, c)
		}
		c, _ := cache.New(9)
		w = rows(r, p, cells(r, w))
		for range 80 {
			h := handed{p, pick(r, codes), w, r.IntN(3), packet(r), anyPick(r)}
			want, _ := h.plain()
			if got := h.run(c); !same(got, want) {
				t.Fatalf("Run says %.3000s\nwant %.3000s\nprogram %.3000s\ncode %.3000s\npacket %x from %d", told(got), told(want), told(p), told(h.C), h.B, h.Port)
			}
			seen[fmt.Sprint(want.E)]++
			if asksTwice(want.Pass) {
				seen["a table twice"]++
			}
		}
	}
	if seen[fmt.Sprint(api.OK)] < 3000 || seen[fmt.Sprint(api.ErrForm)] < 300 || seen["a table twice"] < 100 {
		t.Errorf("the sample says too little: %v", seen)
	}
}

func asksTwice(p api.Pass) bool {
	tables := map[string]int{}
	for _, e := range p.Effects {
		if e.Kind == api.EfHit {
			tables[e.Table]++
		}
	}
	for _, n := range tables {
		if n > 1 {
			return true
		}
	}
	return false
}
