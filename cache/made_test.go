package cache_test

import (
	"bytes"
	"fmt"
	"math/rand/v2"
	"slices"
	"strings"
	"testing"

	"pointsman/api"
	"pointsman/lower"
	"pointsman/source"
)

// dice are alike on every run.
func dice(n uint64) *rand.Rand { return rand.New(rand.NewPCG(18, n)) }

func pick[T any](r *rand.Rand, l []T) T { return l[r.IntN(len(l))] }

// of is a program of a text, its code and its world.
func of(t *testing.T, s string) (api.Program, api.Code, api.World) {
	t.Helper()
	p, c, line, e := lower.Of(s)
	if e != api.OK {
		t.Fatalf("Of(%.2000q): %d, %d", s, line, e)
	}
	w, e := source.New(p)
	if e != api.OK {
		t.Fatalf("New(%.2000q): %d", s, e)
	}
	return p, c, w
}

// declared is what all made up programs have; nothing else of them shows in their worlds.
const declared = `header h { a 8; b 8; } header g { c 4; d 4; e 8; } meta { m 8; f 1; } register r 8 4; counter k 4; meter y 4 1 2;
table t { key { h.a exact; } actions n o; default n(); size 9; }
table u { key { h.b mask; meta.port range; } actions o n; default o(8w5, 16w6); size 9; }
table v { key { h.a ++ h.b prefix; } actions n o; default o(8w1, 16w2); size 9; }
table z { key { } actions n; default n(); size 1; }
`

// calm are statements of which a pass stays fixed; loose others, and such that come to nothing where there is no cell.
var (
	calm  = []string{"h.a = h.b;", "h.b = h.b + 8w1;", "h.a = 8w1;", "meta.out = meta.port;", "meta.out = h.a ++ h.b;", "meta.m = meta.m - h.a;", "g.e = h.a;", "g.c = g.d;", "meta.out = hash crc16(h.b, meta.port);", "make g;", "gone h;", "make h;", "gone g;", "count k[h.b];", "count k[h.a & 8w1];", "clone 3;", "clone 0;", "again;", "round;", "drop;"}
	loose = []string{"read h.b = r[h.a];", "read meta.m = r[h.b];", "write r[h.b] = h.a;", "write r[2w1] = h.b;", "meter meta.f = y[h.b];", "meter meta.f = y[h.a];", "random meta.m;", "digest h.a, meta.port;"}
	asks  = []string{"h.a == 8w1", "h.b < 8w3", "meta.port == 16w1", "valid g", "meta.f", "h.a[0:0]", "~h.b == h.a", "meta.m == h.b && g.e == 8w0", "valid h && h.b[1:1]"}
	steps = []string{"parser { start { take h; go accept; } }", "parser { start { take h; select h.a { 8w1: more; 8w2 & 8w6: reject; else accept; } } more { take g; go accept; } }", "parser { start { select meta.port { 16w1: h; 16w2: start; else accept; } } h { take h; go accept; } }", "parser { start { take h; select h.b { 8w1: start; 8w0: g; else accept; } } g { take g; select g.c { 4w0: g; else accept; } } }", ""}
	ends  = []string{"deparser { h; }", "deparser { g; h; }", "deparser { h; g; }", ""}
)

// body makes up statements. tables are those that may still be applied; none in an action.
func body(r *rand.Rand, tables *[]string, n, deep int) string {
	var s strings.Builder
	for range n {
		switch k := r.IntN(12); {
		case k < 2 && deep < 3:
			fmt.Fprintf(&s, "if %s { %s} else { %s} ", pick(r, asks), body(r, tables, r.IntN(3), deep+1), body(r, tables, r.IntN(3), deep+1))
		case k < 5 && len(*tables) > 0:
			fmt.Fprintf(&s, "apply %s; ", (*tables)[0])
			*tables = (*tables)[1:]
		case k == 5:
			s.WriteString(pick(r, loose) + " ")
		default:
			s.WriteString(pick(r, calm) + " ")
		}
	}
	return s.String()
}

// text is that of a program.
func text(r *rand.Rand) string {
	tables := []string{"t", "u", "v", "z"}
	r.Shuffle(len(tables), func(i, k int) { tables[i], tables[k] = tables[k], tables[i] })
	var none []string
	s := declared + fmt.Sprintf("action n() { %s} action o(p 8, q 16) { h.b = p; %smeta.out = q; } ", body(r, &none, r.IntN(3), 0), body(r, &none, r.IntN(3), 0))
	return s + pick(r, steps) + " control { " + body(r, &tables, 1+r.IntN(8), 0) + "} " + pick(r, ends)
}

// rows are filled at random, with few values, so that much matches.
func rows(r *rand.Rand, p api.Program, w api.World) api.World {
	w = copied(w, 0)
	for i := range w.Tables {
		t := &w.Tables[i]
		d := p[slices.IndexFunc(p, func(d api.Decl) bool { return d.Kind == api.DeTable && d.Name == t.Name })]
		if r.IntN(2) == 0 {
			t.Default, t.Args = action(r, d)
		}
		for range r.IntN(min(d.N, 6)) {
			e := api.Entry{Matches: matches(r, d)}
			e.Action, e.Args = action(r, d)
			if d.Name == "u" {
				e.Priority = 1 + r.IntN(3)
			}
			place := func(x api.Entry) bool {
				return x.Priority == e.Priority && slices.Equal(x.Matches, e.Matches)
			}
			if !slices.ContainsFunc(t.Entries, place) {
				t.Entries = append(t.Entries, e)
			}
		}
	}
	return w
}

func number(w int, lo uint64) api.Bits { return api.Bits{W: w, Lo: lo} }

func action(r *rand.Rand, d api.Decl) (string, []api.Bits) {
	name := pick(r, d.Actions)
	if name == "n" {
		return name, nil
	}
	return name, []api.Bits{number(8, r.Uint64N(4)), number(16, r.Uint64N(4))}
}

func matches(r *rand.Rand, d api.Decl) []api.Match {
	switch d.Name {
	case "t":
		return []api.Match{{Value: number(8, r.Uint64N(4))}}
	case "u":
		mask, low := r.Uint64N(4), r.Uint64N(3)
		return []api.Match{{Value: number(8, r.Uint64()&mask), Mask: number(8, mask)}, {Value: number(16, low), Mask: number(16, low+r.Uint64N(3))}}
	case "v":
		n := r.IntN(17)
		return []api.Match{{Value: number(16, (r.Uint64()&0x0303)>>(16-n)<<(16-n)), Len: n}}
	}
	return nil
}

// cells are filled at random, and what else passes leave out of account.
func cells(r *rand.Rand, w api.World) api.World {
	w = copied(w, 0)
	for i := range w.Arrays {
		a := &w.Arrays[i]
		for k := range a.Cells {
			a.Cells[k].Lo = r.Uint64N(3)
		}
		for k := range a.Last {
			a.Last[k] = r.IntN(3)
		}
	}
	for range 3 {
		w.Groups[r.IntN(api.MaxGroup)].Ports = []int{r.IntN(65536), r.IntN(3)}
	}
	w.Now, w.Random = r.IntN(5), r.Uint64()
	return w
}

// packet has few values; some are nearly as long as they may be.
func packet(r *rand.Rand) []byte {
	b := make([]byte, r.IntN(8))
	for i := range b {
		b[i] = pick(r, []byte{0, 1, 2, 3, 255})
	}
	if r.IntN(20) == 0 {
		b = append(b, bytes.Repeat([]byte{9}, api.MaxPacket-r.IntN(3)-len(b))...)
	}
	return b
}
