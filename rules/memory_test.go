package rules_test

import (
	"fmt"
	"reflect"
	"slices"
	"sync"
	"testing"

	"pointsman/api"
)

func told(x any) string { return fmt.Sprintf("%+v", x) }

// same: the same content; empty lists and nil are alike.
func same[T any](a, b T) bool { return reflect.DeepEqual(copied(a, 0), copied(b, 0)) }

// copied is a copy of its own, each list with so much spare room; with none, empty ones are nil.
func copied[T any](x T, spare int) T {
	return copiedValue(reflect.ValueOf(&x).Elem(), spare).Interface().(T)
}

func copiedValue(v reflect.Value, spare int) reflect.Value {
	out := reflect.New(v.Type()).Elem()
	switch v.Kind() {
	case reflect.Slice:
		if v.Len()+spare > 0 {
			out.Set(reflect.MakeSlice(v.Type(), v.Len(), v.Len()+spare))
		}
		for i := range v.Len() {
			out.Index(i).Set(copiedValue(v.Index(i), spare))
		}
	case reflect.Struct:
		for i := range v.NumField() {
			out.Field(i).Set(copiedValue(v.Field(i), spare))
		}
	default:
		out.Set(v)
	}
	return out
}

// spans are the pieces of memory that lists of v have, spare room too.
func spans(v reflect.Value, out *[][2]uintptr) {
	switch v.Kind() {
	case reflect.Slice:
		if size := uintptr(v.Cap()) * v.Type().Elem().Size(); size > 0 {
			*out = append(*out, [2]uintptr{v.Pointer(), v.Pointer() + size})
		}
		for i := range v.Len() {
			spans(v.Index(i), out)
		}
	case reflect.Struct:
		for i := range v.NumField() {
			spans(v.Field(i), out)
		}
	}
}

// apart: no two lists of these share memory.
func apart(l ...any) bool {
	var all [][2]uintptr
	for _, x := range l {
		spans(reflect.ValueOf(x), &all)
	}
	slices.SortFunc(all, func(a, b [2]uintptr) int { return slices.Compare(a[:], b[:]) })
	for i := 1; i < len(all); i++ {
		if all[i][0] < all[i-1][1] {
			return false
		}
	}
	return true
}

// filled lays something else into the spare room of all lists.
func filled(v reflect.Value) {
	switch v.Kind() {
	case reflect.Slice:
		for i := range v.Len() {
			filled(v.Index(i))
		}
		room := v.Slice(0, v.Cap())
		for i := v.Len(); i < v.Cap() && v.Len() > 0; i++ {
			room.Index(i).Set(v.Index(0))
		}
	case reflect.Struct:
		for i := range v.NumField() {
			filled(v.Field(i))
		}
	}
}

// roomOf is what v holds with the spare room of all lists as part of them.
func roomOf(v reflect.Value) any {
	var l []any
	switch v.Kind() {
	case reflect.Slice:
		room := v.Slice(0, v.Cap())
		for i := range room.Len() {
			// What lies in spare room is the first of the list once more, with lists that were asked already.
			if i < v.Len() {
				l = append(l, roomOf(v.Index(i)))
			} else {
				l = append(l, room.Index(i).Interface())
			}
		}
	case reflect.Struct:
		for i := range v.NumField() {
			l = append(l, roomOf(v.Field(i)))
		}
	default:
		return v.Interface()
	}
	return l
}

// overwrite makes all of v zero, lists and their spare room element by element.
func overwrite(v reflect.Value) {
	switch v.Kind() {
	case reflect.Slice:
		room := v.Slice(0, v.Cap())
		for i := range room.Len() {
			if i < v.Len() {
				overwrite(room.Index(i))
			}
			room.Index(i).SetZero()
		}
	case reflect.Struct:
		for i := range v.NumField() {
			overwrite(v.Field(i))
		}
	}
}

// emptied makes lists that are nil empty ones.
func emptied(v reflect.Value) {
	switch v.Kind() {
	case reflect.Slice:
		if v.IsNil() {
			v.Set(reflect.MakeSlice(v.Type(), 0, 0))
		}
		for i := range v.Len() {
			emptied(v.Index(i))
		}
	case reflect.Struct:
		for i := range v.NumField() {
			emptied(v.Field(i))
		}
	}
}

// kept asks that a call keeps nothing of what it is handed, changes nothing of it, and answers memory of its own; it tells the answer.
func kept[H, A any](t *testing.T, plain H, call func(H) A) A {
	t.Helper()
	want := copied(call(plain), 0)
	given := copied(plain, 2)
	filled(reflect.ValueOf(&given).Elem())
	before := roomOf(reflect.ValueOf(given))
	first, second := call(given), call(given)
	if !same(first, want) || !same(second, want) {
		t.Fatalf("of %.3000s: %.3000s and %.3000s, want %.3000s", told(plain), told(first), told(second), told(want))
	}
	if !apart(given, first, second) {
		t.Fatalf("lists share memory: of %.3000s", told(plain))
	}
	overwrite(reflect.ValueOf(&first).Elem())
	if !same(second, want) || !reflect.DeepEqual(roomOf(reflect.ValueOf(given)), before) {
		t.Fatalf("what was handed in, or another answer, is changed: of %.3000s", told(plain))
	}
	overwrite(reflect.ValueOf(&given).Elem())
	if !same(second, want) {
		t.Fatalf("an answer changes with what was handed in: of %.3000s", told(plain))
	}
	empty := copied(plain, 0)
	emptied(reflect.ValueOf(&empty).Elem())
	if got := call(empty); !same(got, want) {
		t.Fatalf("with empty lists: of %.3000s: %.3000s, want %.3000s", told(plain), told(got), told(want))
	}
	return want
}

// handedTable is all that Table is handed.
type handedTable struct {
	P    api.Program
	Name string
}

func (h handedTable) call() tabled { return table(h.P, h.Name) }

// handedWrite likewise.
type handedWrite struct {
	P api.Program
	W api.World
	L []api.Update
}

func (h handedWrite) call() written { return write(h.P, h.W, h.L...) }

// handedRead likewise.
type handedRead struct {
	P api.Program
	W api.World
	R api.Request
}

func (h handedRead) call() answered { return read(h.P, h.W, h.R) }

func TestMemory(t *testing.T) { // R4, R5
	t.Parallel()
	r := dice(3)
	tables, writes, reads := 0, 0, 0
	for range 400 {
		m := made(t, r)
		w := m.world(t)
		if kept(t, handedTable{m.p, fmt.Sprint("t", r.IntN(3))}, handedTable.call).E == api.OK {
			tables++
		}
		for range 3 {
			if kept(t, handedWrite{m.p, w, m.batch(w, r.IntN(3) == 0)}, handedWrite.call).E == api.OK {
				writes++
			}
			if kept(t, handedRead{m.p, w, m.request()}, handedRead.call).E == api.OK {
				reads++
			}
		}
	}
	if tables < 150 || writes < 500 || reads < 300 {
		t.Errorf("the sample says too little: %d tables, %d writes, %d reads", tables, writes, reads)
	}
}

// TestMemoryOfAll: likewise of a world with something in all of its lists.
func TestMemoryOfAll(t *testing.T) { // R4
	p := parsed(t, three)
	w := filledWorld(t, p)
	for _, c := range tries() {
		w := copied(w, 0)
		c.world(&w)
		l := []api.Update{c.update, {Kind: api.UpGroup, N: 15, Ports: []int{1, 2}}}
		if got := kept(t, handedWrite{p, w, l}, handedWrite.call); got.E != api.OK {
			t.Errorf("%+v: %+v", c.update, got)
		}
	}
	for _, r := range []api.Request{{Kind: api.RqRead, Table: "t"}, {Kind: api.RqRead, Table: "u"}, {Kind: api.RqCells, Table: "y", N: 1}} {
		if got := kept(t, handedRead{p, w, r}, handedRead.call); got.E != api.OK {
			t.Errorf("%+v: %+v", r, got)
		}
	}
	for _, name := range []string{"t", "u", "v"} {
		if got := kept(t, handedTable{p, name}, handedTable.call); got.E != api.OK {
			t.Errorf("%s: %+v", name, got)
		}
	}
}

func TestManyAtOnce(t *testing.T) { // R5
	p := parsed(t, three)
	w := filledWorld(t, p)
	l := []api.Update{tries()[0].update, {Kind: api.UpGroup, N: 15, Ports: []int{1, 2}}}
	r := api.Request{Kind: api.RqRead, Table: "t"}
	a, b, c := table(p, "t"), write(p, w, l...), read(p, w, r)
	var group sync.WaitGroup
	for range 16 {
		group.Go(func() {
			for range 20 {
				if !same(table(p, "t"), a) || !same(write(p, w, l...), b) || !same(read(p, w, r), c) {
					t.Error("answers are not alike")
				}
			}
		})
	}
	group.Wait()
}
