package state_test

import (
	"math"
	"math/rand/v2"
	"reflect"
	"slices"

	"pointsman/api"
	"pointsman/bits"
	"pointsman/rules"
)

// dice are alike on every run.
func dice(n uint64) *rand.Rand { return rand.New(rand.NewPCG(20, n)) }

func pick[T any](r *rand.Rand, l []T) T { return l[r.IntN(len(l))] }

// maker makes requests up.
type maker struct{ *rand.Rand }

// texts are of programs.
func texts() []string {
	return []string{
		chapter, three, "", "register r 128 2; meter y 1 0 1; action f(p 1) { } table t { key { meta.port exact; } actions f; default f(1w1); size 2; }",
		"table w { key { meta.port range; 8w5 prefix; } actions f g; default g(8w1); size 4; } action g(p 8) { } action f() { } counter c 1;",
	}
}

// wrongTexts are of none.
func wrongTexts() []string {
	return []string{"$", "\n\n(", "header h { a 7; }", "\ncontrol { apply t; }", "control {\nmeta.out = 8w1; }", "counter c 1; " + chapter + "\ncounter c 1;"}
}

// number is one of few, so that the same ones come again.
func (m maker) number(w int) api.Bits {
	n := pick(m.Rand, []uint64{0, 1, math.MaxUint64})
	b, _ := bits.Of(w, n&(n<<1), n)
	return b
}

func (m maker) match(kind api.KeyKind, w int) api.Match {
	x := api.Match{Value: m.number(w)}
	switch kind {
	case api.KePrefix:
		x.Len = pick(m.Rand, []int{0, w})
		x.Value, _ = bits.Do(api.OpShl, x.Value, number(16, uint64(w-x.Len)), 0, 0)
	case api.KeMask, api.KeRange:
		x.Mask = x.Value
	}
	return x
}

// declared is the declaration of that kind and that name.
func declared(p api.Program, kind api.DeclKind, name string) api.Decl {
	return p[slices.IndexFunc(p, func(d api.Decl) bool { return d.Kind == kind && d.Name == name })]
}

// entry is one that may be that table's.
func (m maker) entry(p api.Program, table string) api.Entry {
	kinds, widths, _, _ := rules.Table(p, table)
	action := declared(p, api.DeAction, pick(m.Rand, declared(p, api.DeTable, table).Actions))
	e := api.Entry{Action: action.Name}
	for _, f := range action.Fields {
		e.Args = append(e.Args, m.number(f.W))
	}
	for i, kind := range kinds {
		e.Matches = append(e.Matches, m.match(kind, widths[i]))
	}
	if slices.Contains(kinds, api.KeMask) || slices.Contains(kinds, api.KeRange) {
		e.Priority = pick(m.Rand, []int{1, 2, math.MaxInt32})
	}
	return e
}

func (m maker) ports() []int {
	return pick(m.Rand, [][]int{nil, {0}, {65535, m.IntN(65536)}, {1, 1, 1}, make([]int, 16)})
}

// update is one that may be, but for what is in the world.
func (m maker) update(p api.Program, w api.World) api.Update {
	if len(w.Tables) == 0 || m.IntN(5) == 0 {
		return api.Update{Kind: api.UpGroup, N: m.IntN(16), Ports: m.ports()}
	}
	rows := pick(m.Rand, w.Tables)
	u := api.Update{Kind: pick(m.Rand, []api.UpdateKind{api.UpInsert, api.UpInsert, api.UpInsert, api.UpModify, api.UpDelete, api.UpDefault}), Table: rows.Name, Entry: m.entry(p, rows.Name)}
	if len(rows.Entries) > 0 && m.IntN(3) == 0 {
		e := pick(m.Rand, rows.Entries)
		u.Entry.Matches, u.Entry.Priority = e.Matches, e.Priority
	}
	switch u.Kind {
	case api.UpDelete:
		u.Entry.Action, u.Entry.Args = "", nil
	case api.UpDefault:
		u.Entry.Matches, u.Entry.Priority = nil, 0
	}
	return copied(u, 0)
}

// batch is updates that may be one behind the other, if they can be found.
func (m maker) batch(p api.Program, w api.World) []api.Update {
	var l []api.Update
	for range m.IntN(5) {
		u := m.update(p, w)
		behind, _, e := rules.Write(p, w, []api.Update{u})
		if e == api.OK {
			l, w = append(l, u), behind
		}
	}
	return l
}

// request is one that writes; some are spoilt.
func (m maker) request(p api.Program, w api.World) api.Request {
	r := write(m.batch(p, w)...)
	switch m.IntN(12) {
	case 0:
		r = install(pick(m.Rand, texts()))
	case 1:
		r = install(pick(m.Rand, wrongTexts()))
	case 2:
		r.Updates = append(r.Updates, m.update(p, w), m.update(p, w))
	case 3:
		u := m.update(p, w)
		switch m.IntN(3) {
		case 0:
			u.Entry.Action = pick(m.Rand, []string{"f", "k", "x"})
		case 1:
			u.Entry.Args = append(u.Entry.Args, m.number(8))
		default:
			u.Table += "x"
		}
		r.Updates = append(r.Updates, u)
	}
	if m.IntN(10) == 0 {
		spoil(m.Rand, reflect.ValueOf(&r).Elem())
	}
	return r
}

// spoil changes one thing of v: what a list has, or what is in one of its parts.
func spoil(r *rand.Rand, v reflect.Value) {
	switch v.Kind() {
	case reflect.Struct:
		spoil(r, v.Field(r.IntN(v.NumField())))
	case reflect.Slice:
		if v.Len() == 0 || r.IntN(6) == 0 {
			spoilList(r, v)
			return
		}
		spoil(r, v.Index(r.IntN(v.Len())))
	case reflect.String:
		v.SetString(pick(r, []string{"", "f", "g", "t", "u", "r", v.String() + "x"}))
	case reflect.Int:
		v.SetInt(pick(r, []int64{v.Int() - 1, v.Int() + 1, -1, 0, 1, 65535, 65536, math.MaxInt64, math.MinInt64}))
	case reflect.Uint64:
		v.SetUint(pick(r, []uint64{v.Uint() - 1, v.Uint() + 1, 0, 1, r.Uint64(), math.MaxUint64}))
	case reflect.Uint8:
		v.SetUint(pick(r, []uint64{uint64(r.IntN(8)), uint64(r.IntN(256))}))
	}
}

func spoilList(r *rand.Rand, v reflect.Value) {
	if v.Len() == 0 {
		v.Set(reflect.Append(v, reflect.Zero(v.Type().Elem())))
		return
	}
	at := r.IntN(v.Len())
	switch r.IntN(3) {
	case 0:
		v.Set(reflect.AppendSlice(v.Slice(0, at), v.Slice(at+1, v.Len())))
	case 1:
		v.Set(reflect.Append(v, copiedValue(v.Index(at), 0)))
	default:
		reflect.Swapper(v.Interface())(at, r.IntN(v.Len()))
	}
}
