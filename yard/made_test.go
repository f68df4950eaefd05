package yard_test

import (
	"bytes"
	"fmt"
	"math"
	"math/rand/v2"
	"reflect"
	"slices"
	"strings"
	"testing"

	"pointsman/api"
	"pointsman/bits"
	"pointsman/rules"
	"pointsman/wire"
)

// dice are alike on every run.
func dice(n uint64) *rand.Rand { return rand.New(rand.NewPCG(21, n)) }

func pick[T any](r *rand.Rand, l []T) T { return l[r.IntN(len(l))] }

// maker makes events up.
type maker struct{ *rand.Rand }

// declared is what all made up programs have.
const declared = `header h { a 8; b 8; } header g { c 4; d 4; e 8; } meta { m 8; f 1; } register r 8 4; counter k 4; meter y 4 1 2;
table t { key { h.a exact; } actions n o; default n(); size 9; }
table u { key { h.b mask; meta.port range; } actions o n; default o(8w5, 16w6); size 9; }
table v { key { h.a ++ h.b prefix; } actions n o; default o(8w1, 16w2); size 2; }
table z { key { } actions n; default n(); size 1; }
`

// statements are such of which a pass is kept, and others.
func statements() []string {
	return []string{
		"h.a = h.b;", "h.b = h.b + 8w1;", "h.a = 8w1;", "meta.out = meta.port;", "meta.out = h.a ++ h.b;", "meta.m = meta.m - h.a;", "g.e = h.a;", "make g;", "gone h;", "make h;",
		"count k[h.b];", "count k[h.a & 8w1];", "clone 3;", "clone 0;", "clone 3;", "again;", "round;", "drop;",
		"read h.b = r[h.a];", "write r[2w1] = h.b;", "meter meta.f = y[h.b];", "random meta.m;", "digest h.a, meta.port;", "digest meta.m;",
	}
}

func asksOf() []string {
	return []string{"h.a == 8w1", "h.b < 8w3", "meta.port == 16w1", "valid g", "meta.f", "h.a[0:0]", "~h.b == h.a", "valid h && h.b[1:1]"}
}

func parsers() []string {
	return []string{
		"parser { start { take h; go accept; } }", "parser { start { take h; select h.a { 8w1: more; 8w2 & 8w6: reject; else accept; } } more { take g; go accept; } }",
		"parser { start { select meta.port { 16w1: h; 16w2: start; else accept; } } h { take h; go accept; } }", "",
	}
}

// body makes up statements. tables are those that may still be applied; none in an action.
func (m maker) body(tables *[]string, n, deep int) string {
	var s strings.Builder
	for range n {
		switch k := m.IntN(12); {
		case k < 3 && deep < 3:
			fmt.Fprintf(&s, "if %s { %s} else { %s} ", pick(m.Rand, asksOf()), m.body(tables, m.IntN(3), deep+1), m.body(tables, m.IntN(3), deep+1))
		case k < 5 && len(*tables) > 0:
			fmt.Fprintf(&s, "apply %s; ", (*tables)[0])
			*tables = (*tables)[1:]
		default:
			s.WriteString(pick(m.Rand, statements()) + " ")
		}
	}
	return s.String()
}

// text is that of a program.
func (m maker) text() string {
	switch m.IntN(12) {
	case 0:
		return ""
	case 1:
		return three
	}
	tables := []string{"t", "u", "v", "z"}
	m.Shuffle(len(tables), func(i, k int) { tables[i], tables[k] = tables[k], tables[i] })
	var none []string
	s := declared + fmt.Sprintf("action n() { %s} action o(p 8, q 16) { h.b = p; %smeta.out = q; } ", m.body(&none, m.IntN(2), 0), m.body(&none, m.IntN(2), 0))
	return s + pick(m.Rand, parsers()) + " control { " + m.body(&tables, 1+m.IntN(8), 0) + "} " + pick(m.Rand, []string{"deparser { h; }", "deparser { g; h; }", ""})
}

// wrongTexts are of no programs.
func wrongTexts() []string {
	return []string{"$", "\n\n(", "header h { a 7; }", "\ncontrol { apply t; }", "control {\nmeta.out = 8w1; }", "counter c 1; " + chapter + "\ncounter c 1;"}
}

// number is one of few, so that the same ones come again.
func (m maker) number(w int) api.Bits {
	b, _ := bits.Of(w, 0, pick(m.Rand, []uint64{0, 1, 2, 255}))
	b.Lo &= math.MaxUint64 >> max(0, 64-w)
	return b
}

func (m maker) match(kind api.KeyKind, w int) api.Match {
	x := api.Match{Value: m.number(w)}
	switch kind {
	case api.KePrefix:
		x.Len = pick(m.Rand, []int{0, 7, w})
		x.Len = min(x.Len, w)
		up := number(16, uint64(w-x.Len))
		x.Value, _ = bits.Do(api.OpShl, x.Value, up, 0, 0)
	case api.KeMask, api.KeRange:
		x.Mask = x.Value
	}
	return x
}

func declaredAs(p api.Program, kind api.DeclKind, name string) api.Decl {
	return p[slices.IndexFunc(p, func(d api.Decl) bool { return d.Kind == kind && d.Name == name })]
}

// entry is one that may be that table's.
func (m maker) entry(p api.Program, table string) api.Entry {
	kinds, widths, _, _ := rules.Table(p, table)
	action := declaredAs(p, api.DeAction, pick(m.Rand, declaredAs(p, api.DeTable, table).Actions))
	e := api.Entry{Action: action.Name}
	for _, f := range action.Fields {
		e.Args = append(e.Args, m.number(f.W))
	}
	for i, kind := range kinds {
		e.Matches = append(e.Matches, m.match(kind, widths[i]))
	}
	if slices.Contains(kinds, api.KeMask) || slices.Contains(kinds, api.KeRange) {
		e.Priority = pick(m.Rand, []int{1, 2, math.MaxInt32})
	}
	return e
}

// update is one that may be, but for what is in the world.
func (m maker) update(p api.Program, w api.World) api.Update {
	if len(w.Tables) == 0 || m.IntN(4) == 0 {
		return group(pick(m.Rand, []int{0, 3, 15}), pick(m.Rand, [][]int{nil, {0}, {65535, m.IntN(65536)}, {1, 1, 1}, make([]int, 16)})...)
	}
	rows := pick(m.Rand, w.Tables)
	u := api.Update{Kind: pick(m.Rand, []api.UpdateKind{api.UpInsert, api.UpInsert, api.UpInsert, api.UpModify, api.UpDelete, api.UpDefault}), Table: rows.Name, Entry: m.entry(p, rows.Name)}
	if len(rows.Entries) > 0 && m.IntN(3) == 0 {
		e := pick(m.Rand, rows.Entries)
		u.Entry.Matches, u.Entry.Priority = e.Matches, e.Priority
	}
	switch u.Kind {
	case api.UpDelete:
		u.Entry.Action, u.Entry.Args = "", nil
	case api.UpDefault:
		u.Entry.Matches, u.Entry.Priority = nil, 0
	}
	return copied(u, 0)
}

// batch is updates that may be one behind the other, if they can be found.
func (m maker) batch(p api.Program, w api.World) []api.Update {
	var l []api.Update
	for range m.IntN(5) {
		u := m.update(p, w)
		behind, _, e := rules.Write(p, w, []api.Update{u})
		if e == api.OK {
			l, w = append(l, u), behind
		}
	}
	return l
}

// request is one of any kind; some are spoilt.
func (m maker) request(p api.Program, w api.World) api.Request {
	r := write(m.batch(p, w)...)
	switch m.IntN(16) {
	case 0:
		r = install(m.text())
	case 1:
		r = install(pick(m.Rand, wrongTexts()))
	case 2, 3:
		r.Updates = append(r.Updates, m.update(p, w), m.update(p, w))
	case 4, 5, 6:
		r = read(pick(m.Rand, []string{"t", "u", "v", "z", "x"}))
	case 7, 8:
		r = cell(pick(m.Rand, []string{"r", "k", "y", "c", "x"}), m.IntN(5))
	}
	if m.IntN(10) == 0 {
		spoil(m.Rand, reflect.ValueOf(&r).Elem())
	}
	return r
}

// framed is an event with a request; of one that has no frame with something else.
func (m maker) framed(r api.Request) api.Event {
	b, e := wire.EncodeRequest(r)
	if e != api.OK || m.IntN(15) == 0 {
		b = append(b, make([]byte, m.IntN(4))...)
		b = b[:m.IntN(len(b)+1)]
	}
	return frame(b...)
}

// event is one for a switch that has what the model has.
func (m maker) event(t testing.TB, now *model) api.Event {
	t.Helper()
	var e api.Event
	switch k := m.IntN(20); {
	case !now.there && m.IntN(2) == 0:
		e = asks(t, install(m.text()))
	case k < 6:
		e = m.framed(m.request(now.p, now.w))
	case k < 8:
		e = send(pick(m.Rand, []int{0, 1, 2, 5, 64}))
	case k < 9:
		e = tick(pick(m.Rand, []int{0, 1, 7, math.MaxInt32}))
	case k < 10:
		e = crash(pick(m.Rand, []int{0, m.IntN(20), m.IntN(100), math.MaxInt}))
	default:
		e = packet(pick(m.Rand, []int{0, 1, 2, 65535}), m.bytes()...)
	}
	if m.IntN(25) == 0 {
		spoil(m.Rand, reflect.ValueOf(&e).Elem())
	}
	return e
}

// bytes have few values; some are nearly as many as there may be, or one more.
func (m maker) bytes() []byte {
	b := make([]byte, m.IntN(8))
	for i := range b {
		b[i] = pick(m.Rand, []byte{0, 1, 2, 3, 255})
	}
	if m.IntN(20) == 0 {
		b = append(b, bytes.Repeat([]byte{9}, api.MaxPacket+1-m.IntN(4)-len(b))...)
	}
	return b
}

// spoil changes one thing of v: what a list has, or what is in one of its parts.
func spoil(r *rand.Rand, v reflect.Value) {
	switch v.Kind() {
	case reflect.Struct:
		spoil(r, v.Field(r.IntN(v.NumField())))
	case reflect.Slice:
		if v.Len() == 0 || r.IntN(6) == 0 {
			spoilList(r, v)
			return
		}
		spoil(r, v.Index(r.IntN(v.Len())))
	case reflect.String:
		v.SetString(pick(r, []string{"", "n", "o", "t", "u", "r", v.String() + "x"}))
	case reflect.Int:
		v.SetInt(pick(r, []int64{v.Int() - 1, v.Int() + 1, -1, 0, 1, 65535, 65536, math.MaxInt64, math.MinInt64}))
	case reflect.Uint64:
		v.SetUint(pick(r, []uint64{v.Uint() - 1, v.Uint() + 1, 0, 1, r.Uint64(), math.MaxUint64}))
	case reflect.Uint8:
		v.SetUint(pick(r, []uint64{uint64(r.IntN(8)), uint64(r.IntN(256))}))
	}
}

func spoilList(r *rand.Rand, v reflect.Value) {
	if v.Len() == 0 {
		v.Set(reflect.Append(v, reflect.Zero(v.Type().Elem())))
		return
	}
	at := r.IntN(v.Len())
	switch r.IntN(3) {
	case 0:
		v.Set(reflect.AppendSlice(v.Slice(0, at), v.Slice(at+1, v.Len())))
	case 1:
		v.Set(reflect.Append(v, copiedValue(v.Index(at), 0)))
	default:
		reflect.Swapper(v.Interface())(at, r.IntN(v.Len()))
	}
}
