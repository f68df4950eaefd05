package cache_test

import (
	"math"
	"slices"
	"testing"

	"pointsman/api"
	"pointsman/cache"
	"pointsman/parse"
	"pointsman/source"
)

const chapter = "header h { a 8; b 8; } parser { start { take h; go accept; } } control { h.b = h.b + 8w1; meta.out = 16w7; } deparser { h; }"

func TestExamples(t *testing.T) { // P18.1, P18.2, P18.3
	p, c, w := of(t, chapter)
	pass, behind, _ := source.Run(p, w, 3, []byte{1, 2, 3})
	for _, x := range []struct{ room, kept, hits int }{{4, 1, 1}, {0, 0, 0}} {
		kept, e := cache.New(x.room)
		if e != api.OK {
			t.Fatal(e)
		}
		for range 2 {
			if got := (handed{p, c, w, 3, []byte{1, 2, 3}, 0}).run(kept); !same(got, answered{pass, behind, api.OK}) {
				t.Errorf("room %d: %+v", x.room, got)
			}
		}
		if kept.Len() != x.kept || kept.Hits() != x.hits {
			t.Errorf("room %d: Len %d, Hits %d", x.room, kept.Len(), kept.Hits())
		}
	}
}

// P18.1: rooms at each bound from both sides. In a new cache nothing is kept.
func TestNew(t *testing.T) {
	for _, room := range []int{0, 1, 2, 100, 255, 256} {
		if c, e := cache.New(room); e != api.OK || c == nil || c.Len() != 0 || c.Hits() != 0 || c.Clear() != api.OK {
			t.Errorf("New(%d): %d", room, e)
		}
	}
	for _, room := range []int{-1, -2, 257, 512, 1 << 32, math.MinInt, math.MaxInt} {
		if c, e := cache.New(room); e != api.ErrArg || c != nil {
			t.Errorf("New(%d): %v, %d", room, c, e)
		}
	}
}

// P18.2, P18.3, R2, R3: a cache that is not there has ErrNil, whatever it is asked.
func TestNoCache(t *testing.T) {
	p, code, w := of(t, chapter)
	for _, c := range []*cache.Cache{nil, {}} {
		for _, h := range []handed{{p, code, w, 3, []byte{1, 2, 3}, 0}, {P: p}, {C: code, Port: -1, Pick: -1}, {p, code, w, 65536, make([]byte, 2049), 0}} {
			for range 2 {
				if got := h.run(c); !same(got, answered{E: api.ErrNil}) {
					t.Errorf("Run: %+v", got)
				}
			}
		}
		if e := c.Clear(); e != api.ErrNil || c.Len() != 0 || c.Hits() != 0 {
			t.Errorf("Clear: %d, Len %d, Hits %d", e, c.Len(), c.Hits())
		}
	}
}

// TestErrors: each of exec.Run's errors, in its order, whether nothing is kept or a pass that looks the same. It changes nothing.
func TestErrors(t *testing.T) { // P18.2, R2
	p, code, w := of(t, declared+"parser { start { take h; go accept; } } action n() { } action o(p 8, q 16) { } control { apply t; } deparser { h; }")
	late, other, few, twice := copied(w, 0), copied(w, 0), copied(w, 0), copied(w, 0)
	late.Now = -1
	other.Tables[0].Default, other.Tables[0].Args = "o", []api.Bits{number(8, 1)}
	few.Groups = few.Groups[1:]
	twice.Tables[0].Entries = slices.Repeat([]api.Entry{{Matches: []api.Match{{Value: number(8, 1)}}, Action: "n"}}, 2)
	cells := copied(w, 0)
	cells.Arrays[0].Cells[1].W = 9
	_, blank, none := of(t, "")
	short := copied(code, 0)
	short.Slots = short.Slots[1:]
	good := handed{p, code, w, 3, []byte{1, 2, 3}, 0}
	with := func(change func(h *handed)) handed {
		h := good
		change(&h)
		return h
	}
	for name, x := range map[string]struct {
		h    handed
		want api.Errno
	}{
		"a world too late":         {with(func(h *handed) { h.W = late }), api.ErrArg},
		"args too few":             {with(func(h *handed) { h.W = other }), api.ErrArg},
		"a group too few":          {with(func(h *handed) { h.W = few }), api.ErrArg},
		"two of one place":         {with(func(h *handed) { h.W = twice }), api.ErrArg},
		"a cell too wide":          {with(func(h *handed) { h.W = cells }), api.ErrArg},
		"another program's world":  {with(func(h *handed) { h.W = none }), api.ErrArg},
		"no world":                 {with(func(h *handed) { h.W = api.World{} }), api.ErrArg},
		"a port below":             {with(func(h *handed) { h.Port = -1 }), api.ErrArg},
		"a port above":             {with(func(h *handed) { h.Port = 65536 }), api.ErrArg},
		"a port far above":         {with(func(h *handed) { h.Port = math.MaxInt }), api.ErrArg},
		"a packet too long":        {with(func(h *handed) { h.B = append([]byte{1, 2, 3}, make([]byte, 2046)...) }), api.ErrLimit},
		"no code":                  {with(func(h *handed) { h.C = api.Code{} }), api.ErrForm},
		"code of another":          {with(func(h *handed) { h.C = blank }), api.ErrForm},
		"code without a slot":      {with(func(h *handed) { h.C = short }), api.ErrForm},
		"no code, too long":        {with(func(h *handed) { h.C, h.B = api.Code{}, make([]byte, 2049) }), api.ErrLimit},
		"no code, no such port":    {with(func(h *handed) { h.C, h.Port, h.B = api.Code{}, 65536, make([]byte, 2049) }), api.ErrArg},
		"another program":          {with(func(h *handed) { h.P = nil }), api.ErrArg},
		"no program that has text": {with(func(h *handed) { h.P, h.W, h.C = api.Program{{Kind: api.DeHeader}}, api.World{}, api.Code{} }), api.ErrArg},
		"too many declarations":    {with(func(h *handed) { h.P, h.Port = bad(t, many("counter c", " 1;", 257)), -1 }), api.ErrLimit},
		"a name that is not known": {with(func(h *handed) { h.P, h.Port = bad(t, "control{x.a=1w1;}"), -1 }), api.ErrName},
		"another width":            {with(func(h *handed) { h.P, h.Port = bad(t, "control{meta.port=8w1;}"), -1 }), api.ErrWidth},
	} {
		for _, room := range []int{0, 1, 3} {
			for _, kept := range []int{0, 1, 2} {
				b := begin(t, room)
				for i := range kept {
					b.run(with(func(h *handed) { h.B[1] += byte(i); h.W.Now += i }))
				}
				for range 2 {
					if got := b.run(x.h); !same(got, answered{E: x.want}) {
						t.Errorf("%s: %d, want %d", name, got.E, x.want)
					}
				}
				if again := b.hits(good); again != (room > 0 && kept > 0) {
					t.Errorf("behind %s: a hit %v", name, again)
				}
			}
		}
	}
}

// bad is a tree of a text that is no program.
func bad(t *testing.T, s string) api.Program {
	t.Helper()
	p, line, e := parse.Parse(s)
	if e != api.OK {
		t.Fatal(s, line, e)
	}
	return p
}

// many texts, each with another name.
func many(head, tail string, n int) string {
	s := ""
	for i := range n {
		s += head + string(rune('a'+i/26)) + string(rune('a'+i%26)) + tail
	}
	return s
}

// TestWhatIsKept: passes that are fixed are kept, others are not. Each is what exec.Run says, the first time and the second.
func TestWhatIsKept(t *testing.T) { // P18.2, P18.4
	const head = declared + "action n() { } action o(p 8, q 16) { h.b = p; meta.out = q; clone 1; } parser { start { take h; select h.a { 8w9: reject; 8w8: start; else accept; } } } deparser { h; } "
	for s, kept := range map[string]bool{
		"":                                     true,
		"h.b = h.b + 8w1; meta.out = 16w7;":    true,
		"drop;":                                true,
		"count k[2w1];":                        true,
		"count k[8w4];":                        true,
		"clone 2; again; round;":               true,
		"apply t; apply u; apply v; apply z;":  true,
		"o(h.a, meta.port); n();":              true,
		"gone h; make g; h.a = 8w1;":           true,
		"read h.b = r[8w4];":                   true,
		"write r[8w4] = h.b;":                  true,
		"meter meta.f = y[8w4];":               true,
		"if h.a == 8w1 { n(); } else { drop;}": true,
		"read h.b = r[8w3];":                   false,
		"read g.e = r[8w3];":                   false,
		"write r[8w3] = h.b;":                  false,
		"meter meta.f = y[8w3];":               false,
		"random h.b;":                          false,
		"random g.e;":                          false,
		"digest h.a;":                          false,
		"digest 1w0; drop;":                    false,
	} {
		p, c, w := of(t, head+"control { "+s+" }")
		for b, kept := range map[string]bool{"\x01\x02": kept, "\x01\x02\x03\x04": kept, "\x09\x01": true, "\x01": false, "": false, "\x08\x01\x08": false} {
			both := begin(t, 2)
			first := handed{p, c, w, 3, []byte(b), 0}
			both.run(first)
			if again := both.hits(first); again != kept {
				t.Errorf("%q, packet %x: a hit %v", s, b, again)
			}
			moved := first
			moved.W = both.run(first).World
			if again := both.hits(moved); again != kept {
				t.Errorf("%q, packet %x, in the world behind it: a hit %v", s, b, again)
			}
		}
	}
	// A parser that never comes to an end, and packets that are too long when they are put together.
	p, c, w := of(t, "parser { start { go start; } }")
	b := begin(t, 2)
	b.run(handed{p, c, w, 3, nil, 0})
	if b.hits(handed{p, c, w, 3, nil, 0}) {
		t.Error("a hit without an end")
	}
	p, c, w = of(t, "header g { a 8; } control { make g; clone 5; } deparser { g; }")
	b = begin(t, 2)
	for range 2 {
		if got := b.run(handed{p, c, w, 3, make([]byte, api.MaxPacket), 0}); got.Pass.End != api.EndDropped || b.m.hits > 0 {
			t.Errorf("too long: %.200s", told(got.Pass))
		}
	}
	for range 2 {
		b.run(handed{p, c, w, 3, make([]byte, api.MaxPacket-1), 0})
	}
	if got := b.run(handed{p, c, w, 3, make([]byte, api.MaxPacket), 0}); got.Pass.End != api.EndDropped || len(got.Pass.Packet) > 0 || len(got.Pass.Effects) != 1 {
		t.Errorf("too long, where shorter ones are kept: %.200s", told(got.Pass))
	}
}

// TestLooksTheSame: which packets a pass that is kept does for.
func TestLooksTheSame(t *testing.T) { // P18.2
	p, c, w := of(t, "header h { a 4; b 4; c 16; d 8; } header n { e 8; } parser { start { take h; select h.a { 4w1: more; else accept; } } more { take n; go accept; } } control { if h.c[3:0] == 4w5 { drop; } else { h.d = h.b ++ 4w0; } if h.a == 4w2 { if meta.port == 16w9 { meta.out = 16w1; } else { } } else { } } deparser { h; }")
	for _, x := range []struct {
		kept string
		port int
		same map[string]bool // with the port as the last byte
	}{
		{"\x00\x00\x06\x01", 3, map[string]bool{
			"\x00\x00\x06\x01\x03": true, "\x0f\xff\xf6\xff\x04": true, "\x00\x00\x06\x01\xaa\xbb\x03": true, "\x00\x30\x06\x00\x09": true,
			"\x80\x00\x06\x01\x03": false, "\x10\x00\x06\x01\x03": false, "\x00\x00\x05\x01\x03": false, "\x00\x00\x07\x01\x03": false, "\x00\x00\x0e\x01\x03": false,
			"\x00\x00\x06\x03": false, "\x03": false}},
		{"\x1f\x00\x05\x01\xee", 3, map[string]bool{
			"\x10\xff\xf5\x00\x00\x07": true, "\x1f\x00\x05\x01\xee\x00\x00\x09": true,
			"\x1f\x00\x05\x01\x03": false, "\x0f\x00\x05\x01\xee\x03": false, "\x1f\x00\x04\x01\xee\x03": false}},
		{"\x20\x00\x06\x01", 9, map[string]bool{
			"\x20\x00\x06\x01\x09": true, "\x2f\xab\xc6\x07\x00\x09": true,
			"\x20\x00\x06\x01\x08": false, "\x20\x00\x06\x01\x0b": false, "\x00\x00\x06\x01\x09": false}},
		{"\x20\x00\x06\x01", 8, map[string]bool{
			"\x20\x00\x06\x01\x08": true, "\x20\x00\x06\x01\x09": false}},
	} {
		for other, want := range x.same {
			b := begin(t, 1)
			b.run(handed{p, c, w, x.port, []byte(x.kept), 0})
			n := len(other) - 1
			if hit := b.hits(handed{p, c, w, int(other[n]), []byte(other[:n]), 0}); hit != want {
				t.Errorf("%x from %d, and then %x from %d: a hit %v", x.kept, x.port, other[:n], other[n], hit)
			}
		}
	}
}

// TestCalls: what is done again is done with this packet, this port and these cells.
func TestCalls(t *testing.T) { // P18.2
	p, c, w := of(t, "header h { a 8; b 8; } counter k 4; action o(p 8) { h.a = p + h.b; meta.out = meta.port; } table t { key { h.a exact; } actions o; default o(8w9); size 3; } parser { start { take h; go accept; } } control { count k[h.b]; apply t; clone 4; } deparser { h; }")
	w.Tables[0].Entries = []api.Entry{{Matches: []api.Match{{Value: number(8, 7)}}, Action: "o", Args: []api.Bits{number(8, 1)}}, {Matches: []api.Match{{Value: number(8, 1)}}, Action: "o", Args: []api.Bits{number(8, 5)}}}
	b := begin(t, 4)
	b.run(handed{p, c, w, 3, []byte{1, 0, 7}, 0})
	w.Arrays[0].Cells[2].Lo = 41
	w.Now, w.Random, w.Groups[4].Ports = 77, 78, []int{5, 5}
	h := handed{p, c, w, 65535, []byte{1, 2, 8, 9}, 0}
	want := answered{api.Pass{End: api.EndSent, Packet: []byte{7, 2, 8, 9}, Port: 65535, Effects: []api.Effect{{Kind: api.EfCount, Array: "k", Cell: 2}, {Kind: api.EfHit, Table: "t", Entry: 1}, {Kind: api.EfClone, Group: 4}}}, copied(w, 0), api.OK}
	want.World.Arrays[0].Cells[2].Lo = 42
	if got := h.run(b.c); !same(got, want) || b.c.Hits() != 1 {
		t.Errorf("a hit: %d\n%+v\nwant\n%+v", b.c.Hits(), got, want)
	}
	h.B = []byte{1, 4}
	want.Pass.Packet, want.Pass.Effects, want.World = []byte{9, 4}, want.Pass.Effects[1:], w
	if got := h.run(b.c); !same(got, want) || b.c.Hits() != 2 {
		t.Errorf("no such cell, a hit: %d\n%+v\nwant\n%+v", b.c.Hits(), got, want)
	}
	b.m = &model{room: 4, hits: 2, passes: b.m.passes}
	for _, a := range []byte{1, 7, 9, 1, 7, 3, 9} {
		h.B[0] = a
		b.run(h)
	}
	if b.m.hits != 6 {
		t.Errorf("%d hits", b.m.hits)
	}
}

// TestOtherRows: between passes that are the same, rows are others, and the same again. Cells, groups, the tick make no difference.
func TestOtherRows(t *testing.T) { // P18.2
	p, c, w := of(t, declared+"action n() { } action o(p 8, q 16) { h.b = p; meta.out = q; } parser { start { take h; go accept; } } control { apply t; } deparser { h; }")
	entry := func(a, out uint64) api.Entry {
		return api.Entry{Matches: []api.Match{{Value: number(8, a)}}, Action: "o", Args: []api.Bits{number(8, 1), number(16, out)}}
	}
	worlds := []api.World{w}
	for _, change := range []func(r []api.Rows){
		func(r []api.Rows) { r[0].Entries = []api.Entry{entry(1, 5)} },
		func(r []api.Rows) { r[0].Entries = []api.Entry{entry(1, 6)} },
		func(r []api.Rows) { r[0].Entries = []api.Entry{entry(2, 5)} },
		func(r []api.Rows) { r[0].Entries = []api.Entry{entry(2, 5), entry(1, 6)} },
		func(r []api.Rows) { r[0].Entries = []api.Entry{entry(1, 6), entry(2, 5)} },
		func(r []api.Rows) { r[0].Entries = []api.Entry{{Matches: entry(1, 6).Matches, Action: "n"}} },
		func(r []api.Rows) { r[0].Default, r[0].Args = "o", []api.Bits{number(8, 1), number(16, 5)} },
		func(r []api.Rows) { r[0].Default, r[0].Args = "o", []api.Bits{number(8, 1), number(16, 4)} },
		func(r []api.Rows) { r[1].Args[0].Lo++ }, // of a table that is not applied
		func(r []api.Rows) { r[3].Entries = []api.Entry{{Action: "n"}} },
	} {
		x := copied(w, 0)
		change(x.Tables)
		worlds = append(worlds, x)
	}
	b := begin(t, api.MaxCache)
	for round := range 4 {
		for i, x := range worlds {
			x = copied(x, 0)
			x.Now, x.Random, x.Groups[round].Ports, x.Arrays[0].Cells[0].Lo = round, uint64(round), []int{round}, uint64(round)
			if hit := b.hits(handed{p, c, x, 3, []byte{1, 2, byte(round)}, 0}); hit != (round > 0) {
				t.Errorf("round %d, rows %d: a hit %v", round, i, hit)
			}
		}
	}
	if b.c.Len() != len(worlds) {
		t.Errorf("%d are kept", b.c.Len())
	}
}

// TestOtherPrograms: likewise programs; of two that are not the same no pass does for the other one, though all of it looks the same.
func TestOtherPrograms(t *testing.T) { // P18.2
	const head = "header h { a 8; b 8; } parser { start { take h; go accept; } } deparser { h; } "
	var l []handed
	for _, s := range []string{"control { }", "control { drop; }", "control { h.b = h.a; }", "control { h.a = h.b; }", "control { h.a = 8w1; }", "control { h.a = 8w2; }", "control { clone 1; }", "control { clone 2; }", "control { again; }", "control { round; }", "control { meta.out = 16w1; }", "control { meta.out = meta.port; }", "meta { m 8; } control { }", "counter k 1; control { }"} {
		p, c, w := of(t, head+s)
		l = append(l, handed{p, c, w, 3, []byte{1, 2, 3}, 0})
	}
	b := begin(t, len(l))
	for round := range 3 {
		for i, h := range l {
			h.B[2] = byte(round)
			if hit := b.hits(h); hit != (round > 0) {
				t.Errorf("round %d, program %d: a hit %v", round, i, hit)
			}
		}
	}
	// A program with the code of another one.
	for i := range l {
		for k := range l {
			h := l[i]
			h.C = l[k].C
			want, _ := h.plain()
			if got := h.run(b.c); !same(got, want) {
				t.Errorf("program %d with code %d: %+v, want %+v", i, k, got, want)
			}
		}
	}
}

// TestTableAskedTwice: the code of no program asks a table twice, but code that may be could.
func TestTableAskedTwice(t *testing.T) { // P18.2
	p, c, w := of(t, "header h { a 8; b 8; } action o(q 16) { meta.out = q; } table t { key { h.a exact; } actions o; default o(16w9); size 3; } parser { start { take h; go accept; } } control { apply t; } deparser { h; }")
	w.Tables[0].Entries = []api.Entry{{Matches: []api.Match{{Value: number(8, 1)}}, Action: "o", Args: []api.Bits{number(16, 1)}}, {Matches: []api.Match{{Value: number(8, 2)}}, Action: "o", Args: []api.Bits{number(16, 2)}}}
	a, second := c.Heads[0].Slots[0], c.Heads[0].Slots[1]
	ask := api.Ins{Op: api.InApply, N: 0}
	c.Main = []api.Ins{ask, {Op: api.InMove, To: a, A: second}, ask, {Op: api.InLit, To: a, Lit: number(8, 2)}, ask}
	b := begin(t, 20)
	for round := range 2 {
		for x := range byte(4) {
			for y := range byte(4) {
				b.run(handed{p, c, w, 3, []byte{x, y, byte(round)}, 0})
			}
		}
	}
	if b.m.hits < 16 {
		t.Errorf("%d hits", b.m.hits)
	}
}

// TestWhichGoes: where there is no room, the one goes that is the pick-th from the eldest on.
func TestWhichGoes(t *testing.T) { // P18.2
	p, c, w := of(t, "header h { a 8; } parser { start { take h; go accept; } } control { if h.a == 8w0 { drop; } else { } } deparser { h; }")
	ask := func(a byte, pick int) handed { return handed{p, c, w, 0, []byte{a}, pick} }
	for _, room := range []int{1, 2, 3, 5} {
		for _, x := range []struct{ pick, goes int }{{0, 0}, {1, 1 % room}, {2, 2 % room}, {room - 1, room - 1}, {room, 0}, {room + 1, 1 % room}, {7*room + 2, 2 % room}, {-1, 0}, {-room - 1, 0}, {1 - room, 0}, {math.MinInt, 0}, {math.MaxInt, math.MaxInt % room}} {
			for asked := range room + 1 {
				b := begin(t, room)
				for i := range room {
					// While there is room, none goes, whatever the pick is; nor does one at a hit.
					b.run(ask(byte(i), x.pick))
					b.run(ask(0, x.pick))
				}
				b.run(ask(byte(room), x.pick))
				if hit := b.hits(ask(byte(asked), 0)); hit != (asked != x.goes) || b.c.Len() != room {
					t.Errorf("room %d, pick %d: of %d a hit %v", room, x.pick, asked, hit)
				}
			}
		}
	}
	// Behind others that went, the order is still that in which they were kept; no hit changes it.
	b := begin(t, 3)
	for i, pick := range []int{0, 0, 0, 1, 1, 0, 2, 1, 5, 4} {
		b.run(ask(byte(i), pick))
		b.run(ask(byte(i), pick))
	}
	for _, a := range []byte{9, 3, 8} {
		if !b.hits(ask(a, 0)) {
			t.Errorf("%d is not kept", a)
		}
	}
	for _, a := range []byte{0, 1, 2, 4, 5, 6, 7} {
		if b.hits(ask(a, 2)) {
			t.Errorf("%d is still kept", a)
		}
	}
}

// TestClear: nothing is kept behind it; how many hits there were stays.
func TestClear(t *testing.T) { // P18.3
	p, c, w := of(t, chapter)
	h := handed{p, c, w, 3, []byte{1, 2}, 0}
	for _, room := range []int{0, 1, 3} {
		b := begin(t, room)
		for range 3 {
			b.clear()
			b.clear()
			for range 4 {
				b.run(h)
			}
		}
		if want := map[int]int{0: 0, 1: 9, 3: 9}[room]; b.c.Hits() != want {
			t.Errorf("room %d: %d hits", room, b.c.Hits())
		}
	}
}

// TestFullRoom: as many are kept as there is room for, and no more.
func TestFullRoom(t *testing.T) { // P18.1, P18.3
	p, c, w := of(t, "header h { a 16; } parser { start { take h; go accept; } } control { if h.a == 16w0 { drop; } else { } } deparser { h; }")
	for _, room := range []int{1, 255, 256} {
		k, _ := cache.New(room)
		for i := range 300 {
			h := handed{p, c, w, 0, []byte{byte(i >> 8), byte(i)}, -1}
			if got := h.run(k); got.E != api.OK || k.Len() != min(i+1, room) || k.Hits() != 0 {
				t.Fatalf("room %d, behind %d passes: %d, Len %d, Hits %d", room, i+1, got.E, k.Len(), k.Hits())
			}
		}
		for i := range 300 {
			h := handed{p, c, w, 0, []byte{byte((299 - i) >> 8), byte(299 - i)}, 0}
			hits := k.Hits()
			h.run(k)
			if (k.Hits() > hits) != (i < room) {
				t.Fatalf("room %d: %d is kept: %v", room, 299-i, k.Hits() > hits)
			}
			if i == room {
				break
			}
		}
	}
}
