package rules_test

import (
	"fmt"
	"reflect"
	"slices"
	"testing"

	"pointsman/api"
	"pointsman/bits"
	"pointsman/match"
	"pointsman/source"
)

// placeOf is where an entry's place stands; -1: nowhere.
func placeOf(l []api.Entry, e api.Entry) int {
	return slices.IndexFunc(l, func(x api.Entry) bool { return x.Priority == e.Priority && same(x.Matches, e.Matches) })
}

// batch is updates that may be, one behind the other, or some among them that may not.
func (m *maker) batch(w api.World, spoilt bool) []api.Update {
	var l []api.Update
	w = copied(w, 0)
	for range pick(m.Rand, []int{0, 1, 2, 5, 20}) {
		u := m.update(w)
		if spoilt && m.IntN(4) == 0 {
			u = m.spoiltUpdate(w)
		}
		if m.one(&w, u) == api.OK || spoilt {
			l = append(l, u)
		}
	}
	return l
}

// request is one that reads, nearly always.
func (m *maker) request() api.Request {
	r := api.Request{Kind: api.RqRead, Table: fmt.Sprint("t", m.IntN(3))}
	if m.IntN(3) == 0 {
		r = api.Request{Kind: api.RqCells, Table: pick(m.Rand, []string{"r0", "c0", "y0"}), N: m.IntN(3)}
	}
	if m.IntN(4) == 0 {
		spoil(m.Rand, reflect.ValueOf(&r).Elem())
	}
	return r
}

// isWorld: source refuses what is not the program's, and nothing else of a pass of no bytes.
func (m *maker) isWorld(w api.World) bool {
	_, _, e := source.Run(m.p, w, 0, nil)
	return e == api.OK
}

// write is what the chapter says of Write, word for word.
func (m *maker) write(w api.World, l []api.Update) written {
	if !m.isWorld(w) {
		return written{E: api.ErrArg}
	}
	if len(l) > 64 {
		return written{E: api.ErrLimit}
	}
	w = copied(w, 0)
	for i, u := range l {
		if e := m.one(&w, u); e != api.OK {
			return written{At: i, E: e}
		}
	}
	return written{World: w}
}

// named is an update with what its row names, and nothing else.
func named(u api.Update) api.Update {
	e := u.Entry
	switch u.Kind {
	case api.UpInsert, api.UpModify:
		return api.Update{Kind: u.Kind, Table: u.Table, Entry: e}
	case api.UpDelete:
		return api.Update{Kind: u.Kind, Table: u.Table, Entry: api.Entry{Matches: e.Matches, Priority: e.Priority}}
	case api.UpDefault:
		return api.Update{Kind: u.Kind, Table: u.Table, Entry: api.Entry{Action: e.Action, Args: e.Args}}
	}
	return api.Update{Kind: u.Kind, N: u.N, Ports: u.Ports}
}

// one does an update, if it may be.
func (m *maker) one(w *api.World, u api.Update) api.Errno {
	if u.Kind < api.UpInsert || u.Kind > api.UpGroup || !same(u, named(u)) {
		return api.ErrArg
	}
	if u.Kind == api.UpGroup {
		return setGroup(w, u)
	}
	for i, t := range m.tables {
		if t.name == u.Table {
			return t.one(&w.Tables[i], u)
		}
	}
	return api.ErrName
}

func setGroup(w *api.World, u api.Update) api.Errno {
	if u.N < 0 || u.N > 15 || len(u.Ports) > 16 {
		return api.ErrArg
	}
	for _, port := range u.Ports {
		if port != int(uint16(port)) {
			return api.ErrArg
		}
	}
	w.Groups[u.N].Ports = u.Ports
	return api.OK
}

func (t rows) one(r *api.Rows, u api.Update) api.Errno {
	if u.Kind != api.UpDefault && match.Check(t.Table, u.Entry) != api.OK {
		return api.ErrArg
	}
	if u.Kind != api.UpDelete {
		if e := t.does(u.Entry); e != api.OK {
			return e
		}
	}
	if u.Kind == api.UpDefault {
		r.Default, r.Args = u.Entry.Action, u.Entry.Args
		return api.OK
	}
	at := placeOf(r.Entries, u.Entry)
	if u.Kind == api.UpInsert {
		if at >= 0 {
			return api.ErrThere
		}
		if len(r.Entries) >= t.Size {
			return api.ErrFull
		}
		r.Entries = append(r.Entries, u.Entry)
		return api.OK
	}
	if at < 0 {
		return api.ErrGone
	}
	if u.Kind == api.UpModify {
		r.Entries[at] = u.Entry
	} else {
		r.Entries = slices.Delete(slices.Clone(r.Entries), at, at+1)
	}
	return api.OK
}

// does: has the table that action, and are the args those of its params?
func (t rows) does(e api.Entry) api.Errno {
	for _, d := range t.actions {
		if d.name != e.Action {
			continue
		}
		if len(e.Args) != len(d.params) {
			return api.ErrWidth
		}
		for i, b := range e.Args {
			if b.W != d.params[i] || !bits.Check(b) {
				return api.ErrWidth
			}
		}
		return api.OK
	}
	return api.ErrName
}

// TestModelOfTable: what a program was made of, is told of its tables.
func TestModelOfTable(t *testing.T) { // P19.1
	t.Parallel()
	r := dice(1)
	seen := map[api.KeyKind]int{}
	for range 500 {
		m := made(t, r)
		for _, rows := range m.tables {
			if got := table(m.p, rows.name); !same(got, tabled{rows.Kinds, rows.Widths, rows.Size, api.OK}) {
				t.Fatalf("Table(%s) = %+v, want %+v", rows.name, got, rows)
			}
			for _, kind := range rows.Kinds {
				seen[kind]++
			}
		}
		for _, name := range []string{fmt.Sprint("t", len(m.tables)), "f0", "h", "r0", "c0", "y0", ""} {
			if got := table(m.p, name); !same(got, tabled{E: api.ErrName}) {
				t.Fatalf("Table(%s) = %+v", name, got)
			}
		}
	}
	for kind := api.KeExact; kind <= api.KeRange; kind++ {
		if seen[kind] < 100 {
			t.Errorf("the sample says too little of keys of kind %d: %d", kind, seen[kind])
		}
	}
}

// TestModel: updates of many worlds of many programs come to what the chapter says; one batch to what its updates come to as batches of one each.
func TestModel(t *testing.T) { // P19.2, P19.4, P0.3
	t.Parallel()
	r := dice(2)
	seen := map[string]int{}
	for n := range 3000 {
		m := made(t, r)
		w := m.world(t)
		if n%10 == 0 {
			spoil(r, reflect.ValueOf(&w).Elem())
		}
		for range 4 {
			l := []api.Update{}
			if m.isWorld(w) {
				l = m.batch(w, r.IntN(3) > 0)
			}
			before := copied(w, 0)
			want := m.write(w, l)
			got := write(m.p, w, l...)
			if !same(got, want) {
				t.Fatalf("Write(%.2000s, %.2000s) = %.2000s, want %.2000s", told(w), told(l), told(got), told(want))
			}
			if !same(w, before) {
				t.Fatalf("Write(%.2000s) changes the world", told(l))
			}
			note(seen, l, got)
			if got.E != api.OK {
				continue
			}
			if one := m.oneByOne(t, w, l); !m.isWorld(got.World) || !same(one, got.World) {
				t.Fatalf("one by one %.2000s: %.2000s, want %.2000s", told(l), told(one), told(got.World))
			}
			w = got.World
		}
	}
	for kind, errors := range map[api.UpdateKind][]api.Errno{
		api.UpInsert:  {api.OK, api.ErrArg, api.ErrName, api.ErrWidth, api.ErrThere, api.ErrFull},
		api.UpModify:  {api.OK, api.ErrArg, api.ErrName, api.ErrWidth, api.ErrGone},
		api.UpDelete:  {api.OK, api.ErrArg, api.ErrName, api.ErrGone},
		api.UpDefault: {api.OK, api.ErrArg, api.ErrName, api.ErrWidth},
		api.UpGroup:   {api.OK, api.ErrArg},
	} {
		for _, e := range errors {
			if k := fmt.Sprint(kind, " ", int(e)); seen[k] < 10 {
				t.Errorf("the sample says too little of %q: %d", k, seen[k])
			}
		}
	}
	for _, k := range []string{"no world", "none", "at 0", "later", "long"} {
		if seen[k] < 20 {
			t.Errorf("the sample says too little of %q: %d", k, seen[k])
		}
	}
}

// oneByOne is the world behind updates that are batches of one each.
func (m *maker) oneByOne(t *testing.T, w api.World, l []api.Update) api.World {
	t.Helper()
	for i, u := range l {
		got := write(m.p, w, u)
		if got.E != api.OK || got.At != 0 {
			t.Fatalf("%d of %.2000s: %d at %d", i, told(l), got.E, got.At)
		}
		w = got.World
	}
	return w
}

// note counts what came about.
func note(seen map[string]int, l []api.Update, got written) {
	switch {
	case len(l) == 0 && got.E != api.OK:
		seen["no world"]++
	case len(l) == 0:
		seen["none"]++
	case got.E != api.OK:
		seen[fmt.Sprint(l[got.At].Kind, " ", int(got.E))]++
		seen[map[bool]string{true: "at 0", false: "later"}[got.At == 0]]++
	default:
		for _, u := range l {
			seen[fmt.Sprint(u.Kind, " 0")]++
		}
		if len(l) > 9 {
			seen["long"]++
		}
	}
}

// TestModelOfRead: what is read of many worlds is what they hold.
func TestModelOfRead(t *testing.T) { // P19.3
	t.Parallel()
	r := dice(4)
	seen := map[string]int{}
	for n := range 2000 {
		m := made(t, r)
		w := m.world(t)
		if n%10 == 0 {
			spoil(r, reflect.ValueOf(&w).Elem())
		}
		for range 5 {
			q := m.request()
			want := m.read(w, q)
			if got := read(m.p, w, q); !same(got, want) {
				t.Fatalf("Read(%.2000s, %+v) = %+v, want %+v", told(w), q, got, want)
			}
			seen[fmt.Sprint(q.Kind, " ", int(want.E), " ", len(want.Reply.Entries) > 0)]++
		}
	}
	for _, k := range []string{"3 0 true", "3 0 false", "3 1 false", "3 6 false", "4 0 false", "4 1 false", "4 6 false", "4 11 false"} {
		if seen[k] < 20 {
			t.Errorf("the sample says too little of %q: %d of %v", k, seen[k], seen)
		}
	}
}

// read is what the chapter says of Read, word for word.
func (m *maker) read(w api.World, q api.Request) answered {
	rows := q.Kind == api.RqRead && same(q, api.Request{Kind: q.Kind, Table: q.Table})
	cells := q.Kind == api.RqCells && same(q, api.Request{Kind: q.Kind, Table: q.Table, N: q.N})
	if !m.isWorld(w) || !rows && !cells {
		return answered{E: api.ErrArg}
	}
	for _, r := range w.Tables {
		if rows && r.Name == q.Table {
			return answered{Reply: api.Reply{Entries: r.Entries}}
		}
	}
	for _, a := range w.Arrays {
		if cells && a.Name == q.Table {
			if q.N < 0 || q.N >= len(a.Cells) {
				return answered{E: api.ErrGone}
			}
			return answered{Reply: api.Reply{Value: a.Cells[q.N]}}
		}
	}
	return answered{E: api.ErrName}
}
