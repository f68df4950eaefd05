package rules_test

import (
	"fmt"
	"math"
	"math/rand/v2"
	"reflect"
	"slices"
	"strings"
	"testing"

	"pointsman/api"
	"pointsman/bits"
	"pointsman/match"
)

// dice are alike on every run.
func dice(n uint64) *rand.Rand { return rand.New(rand.NewPCG(19, n)) }

func pick[T any](r *rand.Rand, l []T) T { return l[r.IntN(len(l))] }

// deed is an action, with how wide its params are.
type deed struct {
	name   string
	params []int
}

// rows is a table of which the names and the widths are known.
type rows struct {
	match.Table
	name    string
	actions []deed
}

func (t rows) weighs() bool {
	return slices.Contains(t.Kinds, api.KeMask) || slices.Contains(t.Kinds, api.KeRange)
}

// maker is a made-up program, with what it was made of.
type maker struct {
	*rand.Rand
	p       api.Program
	tables  []rows
	actions []deed
}

// part is the text of a declaration; of a table with what it says.
type part struct {
	text  string
	table *rows
}

// made is a maker with a program that may be. Its declarations stand in no order.
func made(t testing.TB, r *rand.Rand) *maker {
	m := &maker{Rand: r}
	parts := []part{{"header h{a 8;b 128;}", nil}, {"meta{m 5;}", nil}}
	for i := range 1 + r.IntN(4) {
		parts = append(parts, part{m.action(i), nil})
	}
	for i := range r.IntN(4) {
		parts = append(parts, m.table(i))
	}
	for i := range r.IntN(2) {
		parts = append(parts, part{fmt.Sprintf("register r%d %d %d;", i, 1+r.IntN(128), 1+r.IntN(3)), nil},
			part{fmt.Sprintf("counter c%d %d;", i, 1+r.IntN(3)), nil}, part{fmt.Sprintf("meter y%d %d 1 5;", i, 1+r.IntN(3)), nil})
	}
	var s strings.Builder
	for _, i := range r.Perm(len(parts)) {
		s.WriteString(parts[i].text + "\n")
		if parts[i].table != nil {
			m.tables = append(m.tables, *parts[i].table)
		}
	}
	m.p = parsed(t, s.String())
	return m
}

func (m *maker) action(n int) string {
	d := deed{name: fmt.Sprint("f", n)}
	var params []string
	for i := range m.IntN(4) {
		d.params = append(d.params, pick(m.Rand, []int{1, 5, 8, 16, 64, 65, 128}))
		params = append(params, fmt.Sprintf("p%d %d", i, d.params[i]))
	}
	m.actions = append(m.actions, d)
	return "action " + d.name + "(" + strings.Join(params, ",") + "){}"
}

func (m *maker) table(n int) part {
	t := rows{name: fmt.Sprint("t", n)}
	t.Size = pick(m.Rand, []int{1, 2, 3, 4, 5, 6, 1 + m.IntN(4096)})
	keys := ""
	for range m.IntN(4) {
		kind := api.KeExact + api.KeyKind(m.IntN(4))
		if kind == api.KePrefix && slices.Contains(t.Kinds, kind) {
			kind = api.KeExact
		}
		key, width := m.key()
		t.Kinds, t.Widths = append(t.Kinds, kind), append(t.Widths, width)
		keys += key + " " + map[api.KeyKind]string{api.KeExact: "exact", api.KePrefix: "prefix", api.KeMask: "mask", api.KeRange: "range"}[kind] + ";"
	}
	t.actions = slices.Clone(m.actions)
	m.Shuffle(len(t.actions), reflect.Swapper(t.actions))
	t.actions = t.actions[:1+m.IntN(len(t.actions))]
	names := ""
	for _, d := range t.actions {
		names += " " + d.name
	}
	var args []string
	by := pick(m.Rand, t.actions)
	for _, b := range m.args(by) {
		text, _ := bits.Text(b)
		args = append(args, text)
	}
	return part{fmt.Sprintf("table %s{key{%s} actions%s; default %s(%s); size %d;}", t.name, keys, names, by.name, strings.Join(args, ","), t.Size), &t}
}

// key is a key, and how wide it is.
func (m *maker) key() (string, int) {
	l := []struct {
		text  string
		width int
	}{
		{"h.a", 8}, {"h.b", 128}, {"meta.port", 16}, {"meta.m", 5}, {"valid h", 1}, {"h.a[6:2]", 5}, {"cast 65(h.a)", 65}, {"hash crc32(h.a)", 32}, {"h.a++meta.m", 13}, {"7w5", 7}, {"h.b==h.b", 1},
	}
	k := pick(m.Rand, l)
	return k.text, k.width
}

// number is one of few, so that the same ones come again.
func (m *maker) number(w int) api.Bits {
	n := pick(m.Rand, []uint64{0, 1, 2, math.MaxUint64})
	b, _ := bits.Of(w, n&(n<<1), n)
	return b
}

func (m *maker) args(d deed) []api.Bits {
	var l []api.Bits
	for _, w := range d.params {
		l = append(l, m.number(w))
	}
	return l
}

func (m *maker) match(kind api.KeyKind, w int) api.Match {
	x := api.Match{Value: m.number(w)}
	all, _ := bits.Of(w, math.MaxUint64, math.MaxUint64)
	switch kind {
	case api.KePrefix:
		x.Len = pick(m.Rand, []int{0, 1, w})
		x.Value, _ = bits.Do(api.OpShl, x.Value, number(16, uint64(w-x.Len)), 0, 0)
	case api.KeMask:
		x.Mask = pick(m.Rand, []api.Bits{x.Value, all})
	case api.KeRange:
		x.Mask = pick(m.Rand, []api.Bits{x.Value, all})
	}
	return x
}

// entry is one that may be the table's.
func (m *maker) entry(t rows) api.Entry {
	d := pick(m.Rand, t.actions)
	e := api.Entry{Action: d.name, Args: m.args(d)}
	if t.weighs() {
		e.Priority = pick(m.Rand, []int{1, 2, math.MaxInt32})
	}
	for i, kind := range t.Kinds {
		e.Matches = append(e.Matches, m.match(kind, t.Widths[i]))
	}
	return e
}

func (m *maker) ports() []int {
	var l []int
	for range pick(m.Rand, []int{0, 1, 2, 16}) {
		l = append(l, pick(m.Rand, []int{0, 1, 65535, m.IntN(65536)}))
	}
	return l
}

// world is one of the program's.
func (m *maker) world(t testing.TB) api.World {
	w := fresh(t, m.p)
	w.Now, w.Random = m.IntN(5), m.Uint64()
	for i := range w.Groups {
		w.Groups[i].Ports = m.ports()
	}
	for i, rows := range m.tables {
		d := pick(m.Rand, rows.actions)
		w.Tables[i].Default, w.Tables[i].Args = d.name, m.args(d)
		for range m.IntN(min(rows.Size, 6) + 1) {
			if e := m.entry(rows); placeOf(w.Tables[i].Entries, e) < 0 {
				w.Tables[i].Entries = append(w.Tables[i].Entries, e)
			}
		}
	}
	for _, a := range w.Arrays {
		for i := range a.Cells {
			if a.Kind == api.DeMeter {
				a.Cells[i].Lo, a.Last[i] = uint64(m.IntN(6)), m.IntN(9)
			} else {
				a.Cells[i] = m.number(a.W)
			}
		}
	}
	return w
}

// update is one that may be, but for what is in the world.
func (m *maker) update(w api.World) api.Update {
	if len(m.tables) == 0 || m.IntN(8) == 0 {
		return api.Update{Kind: api.UpGroup, N: m.IntN(16), Ports: m.ports()}
	}
	at := m.IntN(len(m.tables))
	u := api.Update{Kind: pick(m.Rand, []api.UpdateKind{api.UpInsert, api.UpInsert, api.UpInsert, api.UpModify, api.UpModify, api.UpDelete, api.UpDelete, api.UpDefault}), Table: m.tables[at].name}
	u.Entry = m.entry(m.tables[at])
	if l := w.Tables[at].Entries; len(l) > 0 && m.IntN(2) == 0 {
		e := pick(m.Rand, l)
		u.Entry.Matches, u.Entry.Priority = copied(e.Matches, 0), e.Priority
	}
	switch u.Kind {
	case api.UpDelete:
		u.Entry.Action, u.Entry.Args = "", nil
	case api.UpDefault:
		u.Entry.Matches, u.Entry.Priority = nil, 0
	}
	return u
}

// spoiltUpdate is an update that may be, but for one thing or two.
func (m *maker) spoiltUpdate(w api.World) api.Update {
	u := copied(m.update(w), 0)
	for range 1 + m.IntN(2) {
		switch d := pick(m.Rand, m.actions); m.IntN(6) {
		case 0:
			u.Entry.Action, u.Entry.Args = d.name, m.args(d)
		case 1:
			u.Entry.Args = m.args(d)
		case 2:
			u.Table = pick(m.Rand, []string{"t0", "t1", "t2", "t3", "f0", "h", ""})
		case 3:
			u.N, u.Ports = pick(m.Rand, []int{-1, 0, 15, 16}), pick(m.Rand, [][]int{nil, {1}, {-1}, {65536}, make([]int, 17)})
		default:
			spoil(m.Rand, reflect.ValueOf(&u).Elem())
		}
	}
	return u
}

// spoil changes one thing of v: what a list has, or what is in one of its parts.
func spoil(r *rand.Rand, v reflect.Value) {
	switch v.Kind() {
	case reflect.Struct:
		spoil(r, v.Field(r.IntN(v.NumField())))
	case reflect.Slice:
		if v.Len() == 0 || r.IntN(6) == 0 {
			spoilList(r, v)
			return
		}
		spoil(r, v.Index(r.IntN(v.Len())))
	case reflect.String:
		v.SetString(pick(r, []string{"", "f0", "f1", "t0", "r0", "h", v.String() + "x"}))
	case reflect.Int:
		v.SetInt(pick(r, []int64{v.Int() - 1, v.Int() + 1, -1, 0, 1, 65535, 65536, math.MaxInt64, math.MinInt64}))
	case reflect.Uint64:
		v.SetUint(pick(r, []uint64{v.Uint() - 1, v.Uint() + 1, 0, 1, r.Uint64(), math.MaxUint64}))
	case reflect.Uint8:
		v.SetUint(pick(r, []uint64{uint64(r.IntN(8)), uint64(r.IntN(256))}))
	}
}

func spoilList(r *rand.Rand, v reflect.Value) {
	if v.Len() == 0 {
		v.Set(reflect.Append(v, reflect.Zero(v.Type().Elem())))
		return
	}
	at := r.IntN(v.Len())
	switch r.IntN(3) {
	case 0:
		v.Set(reflect.AppendSlice(v.Slice(0, at), v.Slice(at+1, v.Len())))
	case 1:
		v.Set(reflect.Append(v, copiedValue(v.Index(at), 0)))
	default:
		reflect.Swapper(v.Interface())(at, r.IntN(v.Len()))
	}
}
