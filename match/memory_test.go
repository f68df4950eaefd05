package match_test

import (
	"reflect"
	"slices"
	"sync"
	"testing"

	"pointsman/api"
	"pointsman/match"
)

// rebuilt is a copy of its own, whose lists a function makes room for.
func rebuilt[T any](x T, room func(v reflect.Value) reflect.Value) T {
	return rebuiltValue(reflect.ValueOf(&x).Elem(), room).Interface().(T)
}

func rebuiltValue(v reflect.Value, room func(v reflect.Value) reflect.Value) reflect.Value {
	out := reflect.New(v.Type()).Elem()
	switch v.Kind() {
	case reflect.Slice:
		out.Set(room(v))
		for i := range v.Len() {
			out.Index(i).Set(rebuiltValue(v.Index(i), room))
		}
	case reflect.Struct:
		for i := range v.NumField() {
			out.Field(i).Set(rebuiltValue(v.Field(i), room))
		}
	default:
		out.Set(v)
	}
	return out
}

// copied has lists with so much spare room; with none, empty ones are nil.
func copied[T any](x T, spare int) T {
	return rebuilt(x, func(v reflect.Value) reflect.Value {
		if v.Len()+spare == 0 {
			return reflect.Zero(v.Type())
		}
		return reflect.MakeSlice(v.Type(), v.Len(), v.Len()+spare)
	})
}

// emptied has empty lists for those that are nil.
func emptied[T any](x T) T {
	return rebuilt(x, func(v reflect.Value) reflect.Value { return reflect.MakeSlice(v.Type(), v.Len(), v.Len()) })
}

// same: empty lists and none are alike.
func same(a, b []api.Entry) bool {
	return slices.EqualFunc(a, b, func(a, b api.Entry) bool {
		return a.Priority == b.Priority && a.Action == b.Action && slices.Equal(a.Matches, b.Matches) && slices.Equal(a.Args, b.Args)
	})
}

// spans are the pieces of memory that lists of v have, spare room too.
func spans(v reflect.Value, out *[][2]uintptr) {
	switch v.Kind() {
	case reflect.Slice:
		if size := uintptr(v.Cap()) * v.Type().Elem().Size(); size > 0 {
			*out = append(*out, [2]uintptr{v.Pointer(), v.Pointer() + size})
		}
		for i := range v.Len() {
			spans(v.Index(i), out)
		}
	case reflect.Struct:
		for i := range v.NumField() {
			spans(v.Field(i), out)
		}
	}
}

// apart: no two lists of these share memory.
func apart(l ...any) bool {
	var all [][2]uintptr
	for _, x := range l {
		spans(reflect.ValueOf(x), &all)
	}
	slices.SortFunc(all, func(a, b [2]uintptr) int { return slices.Compare(a[:], b[:]) })
	for i := 1; i < len(all); i++ {
		if all[i][0] < all[i-1][1] {
			return false
		}
	}
	return true
}

// filled lays something else into the spare room of all lists.
func filled(v reflect.Value) {
	switch v.Kind() {
	case reflect.Slice:
		for i := range v.Len() {
			filled(v.Index(i))
		}
		room := v.Slice(0, v.Cap())
		for i := v.Len(); i < v.Cap() && v.Len() > 0; i++ {
			room.Index(i).Set(v.Index(0))
		}
	case reflect.Struct:
		for i := range v.NumField() {
			filled(v.Field(i))
		}
	}
}

// roomOf is what v holds, the spare room of all lists being part of them, told as a copy.
func roomOf(v reflect.Value) any {
	var l []any
	switch v.Kind() {
	case reflect.Slice:
		room := v.Slice(0, v.Cap())
		for i := range room.Len() {
			l = append(l, roomOf(room.Index(i)))
		}
	case reflect.Struct:
		for i := range v.NumField() {
			l = append(l, roomOf(v.Field(i)))
		}
	default:
		return v.Interface()
	}
	return l
}

// overwrite makes all of v zero, lists and their spare room element by element.
func overwrite(v reflect.Value) {
	switch v.Kind() {
	case reflect.Slice:
		room := v.Slice(0, v.Cap())
		for i := range room.Len() {
			if i < v.Len() {
				overwrite(room.Index(i))
			}
			room.Index(i).SetZero()
		}
	case reflect.Struct:
		for i := range v.NumField() {
			overwrite(v.Field(i))
		}
	}
}

// handed is all that the calls are handed.
type handed struct {
	T    match.Table
	L    []api.Entry
	E    api.Entry
	Keys []api.Bits
}

// madeHanded is often so that the calls do what they are asked for.
func madeHanded(n int) handed {
	r := dice()
	for range n {
		r.Uint64()
	}
	x := madeTable(r)
	x.Size = pick(r, x.Size, 4096)
	var l []api.Entry
	for range r.IntN(6) {
		l, _ = modelChange(api.UpInsert, table4096(x), l, madeEntry(r, x))
	}
	h := handed{T: x, L: l, E: madeEntry(r, x)}
	if len(l) > 0 && n%2 == 0 {
		h.E.Matches, h.E.Priority = pick(r, l...).Matches, pick(r, l...).Priority
	}
	h.Keys = madeKeys(r, x, l)
	return copied(h, 0)
}

func table4096(x match.Table) match.Table {
	x.Size = 4096
	return x
}

func TestMemory(t *testing.T) { // R4, R5
	done := 0
	for n := range 2000 {
		plain := madeHanded(n)
		given := copied(plain, 2)
		filled(reflect.ValueOf(&given).Elem())
		before := roomOf(reflect.ValueOf(given))
		stays := func(what string) {
			t.Helper()
			if !reflect.DeepEqual(roomOf(reflect.ValueOf(given)), before) {
				t.Fatalf("%s: what was handed in is changed: %+v", what, plain)
			}
		}
		if a, b := match.Check(given.T, given.E), match.Find(given.T, given.L, given.Keys); a != modelCheck(plain.T, plain.E) || b != modelFind(plain.T, plain.L, plain.Keys) {
			t.Fatalf("Check = %d, Find = %d of %+v", a, b, plain)
		}
		stays("Check, Find")
		for _, c := range changes {
			given := copied(plain, 2)
			filled(reflect.ValueOf(&given).Elem())
			before := roomOf(reflect.ValueOf(given))
			want, fault := modelChange(c.kind, plain.T, plain.L, plain.E)
			first, e := c.do(given.T, given.L, given.E)
			second, f := c.do(given.T, given.L, given.E)
			if e != fault || f != fault || !same(first, want) || !same(second, want) {
				t.Fatalf("%s of %+v: %+v, %d and %+v, %d, want %+v, %d", c.name, plain, first, e, second, f, want, fault)
			}
			if !apart(given, first, second) {
				t.Fatalf("%s: lists share memory: %+v", c.name, plain)
			}
			overwrite(reflect.ValueOf(&first).Elem())
			if !same(second, want) || !reflect.DeepEqual(roomOf(reflect.ValueOf(given)), before) {
				t.Fatalf("%s: what was handed in, or another answer, is changed: %+v", c.name, plain)
			}
			overwrite(reflect.ValueOf(&given).Elem())
			if !same(second, want) {
				t.Fatalf("%s: an answer changes with what was handed in: %+v", c.name, plain)
			}
			if fault == api.OK {
				done++
			}
		}
	}
	if done < 1000 {
		t.Errorf("only %d calls had an answer", done)
	}
}

// TestSharedLists: entries that were handed in with one list have lists of their own in an answer.
func TestSharedLists(t *testing.T) { // R4
	x := table(9, 8, api.KeMask)
	m, args := []api.Match{pair(1, 1)}, []api.Bits{eight(1), eight(2)}
	l := []api.Entry{{Matches: m, Priority: 1, Args: args}, {Matches: m, Priority: 2, Args: args[:1]}, {Matches: m, Priority: 3, Args: args[1:]}}
	for _, e := range []api.Entry{{Matches: m, Priority: 2, Args: args}, {Matches: m, Priority: 4, Args: args}} {
		for _, c := range changes {
			if got, _ := c.do(x, l, e); !apart(got, l[0]) {
				t.Errorf("%s: lists share memory: %+v", c.name, got)
			}
		}
	}
}

// TestEmpty: empty lists and none mean the same.
func TestEmpty(t *testing.T) { // R4
	for n := range 500 {
		none := madeHanded(n)
		empty := emptied(none)
		if a, b := match.Check(none.T, none.E), match.Check(empty.T, empty.E); a != b {
			t.Fatalf("Check = %d and %d of %+v", a, b, none)
		}
		if a, b := match.Find(none.T, none.L, none.Keys), match.Find(empty.T, empty.L, empty.Keys); a != b {
			t.Fatalf("Find = %d and %d of %+v", a, b, none)
		}
		for _, c := range changes {
			a, e := c.do(none.T, none.L, none.E)
			b, f := c.do(empty.T, empty.L, empty.E)
			if e != f || !same(a, b) {
				t.Fatalf("%s = %+v, %d and %+v, %d", c.name, a, e, b, f)
			}
		}
	}
}

func TestManyAtOnce(t *testing.T) { // R5
	h := madeHanded(6)
	want, fault := match.Insert(table4096(h.T), h.L, h.E)
	at := match.Find(h.T, h.L, h.Keys)
	var group sync.WaitGroup
	for range 16 {
		group.Go(func() {
			for range 50 {
				if l, e := match.Insert(table4096(h.T), h.L, h.E); e != fault || !same(l, want) || match.Find(h.T, h.L, h.Keys) != at {
					t.Errorf("Insert = %+v, %d", l, e)
				}
			}
		})
	}
	group.Wait()
}

func BenchmarkFind(b *testing.B) {
	x := table(api.MaxCells, 128, api.KeExact, api.KeMask, api.KePrefix, api.KeRange)
	var l []api.Entry
	for n := range api.MaxCells {
		e := plain(x)
		e.Priority = n + 1
		l = append(l, e)
	}
	keys := noughts(x)
	for b.Loop() {
		match.Find(x, l, keys)
	}
}
