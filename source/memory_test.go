package source_test

import (
	"fmt"
	"reflect"
	"slices"
	"sync"
	"testing"

	"pointsman/api"
	"pointsman/parse"
	"pointsman/source"
)

func told(x any) string { return fmt.Sprintf("%+v", x) }

// same: the same content; empty lists and nil are alike.
func same[T any](a, b T) bool { return reflect.DeepEqual(copied(a, 0), copied(b, 0)) }

// copied is a copy of its own, each list with so much spare room; with none, empty ones are nil.
func copied[T any](x T, spare int) T {
	return copiedValue(reflect.ValueOf(&x).Elem(), spare).Interface().(T)
}

func copiedValue(v reflect.Value, spare int) reflect.Value {
	out := reflect.New(v.Type()).Elem()
	switch v.Kind() {
	case reflect.Slice:
		if v.Len()+spare > 0 {
			out.Set(reflect.MakeSlice(v.Type(), v.Len(), v.Len()+spare))
		}
		for i := range v.Len() {
			out.Index(i).Set(copiedValue(v.Index(i), spare))
		}
	case reflect.Struct:
		for i := range v.NumField() {
			out.Field(i).Set(copiedValue(v.Field(i), spare))
		}
	default:
		out.Set(v)
	}
	return out
}

// spans are the pieces of memory that lists of v have, spare room too.
func spans(v reflect.Value, out *[][2]uintptr) {
	switch v.Kind() {
	case reflect.Slice:
		if size := uintptr(v.Cap()) * v.Type().Elem().Size(); size > 0 {
			*out = append(*out, [2]uintptr{v.Pointer(), v.Pointer() + size})
		}
		for i := range v.Len() {
			spans(v.Index(i), out)
		}
	case reflect.Struct:
		for i := range v.NumField() {
			spans(v.Field(i), out)
		}
	}
}

// apart: no two lists of these share memory.
func apart(l ...any) bool {
	var all [][2]uintptr
	for _, x := range l {
		spans(reflect.ValueOf(x), &all)
	}
	slices.SortFunc(all, func(a, b [2]uintptr) int { return slices.Compare(a[:], b[:]) })
	for i := 1; i < len(all); i++ {
		if all[i][0] < all[i-1][1] {
			return false
		}
	}
	return true
}

// filled lays something else into the spare room of all lists.
func filled(v reflect.Value) {
	switch v.Kind() {
	case reflect.Slice:
		for i := range v.Len() {
			filled(v.Index(i))
		}
		room := v.Slice(0, v.Cap())
		for i := v.Len(); i < v.Cap() && v.Len() > 0; i++ {
			room.Index(i).Set(v.Index(0))
		}
	case reflect.Struct:
		for i := range v.NumField() {
			filled(v.Field(i))
		}
	}
}

// roomOf is what v holds with the spare room of all lists as part of them.
func roomOf(v reflect.Value) any {
	var l []any
	switch v.Kind() {
	case reflect.Slice:
		room := v.Slice(0, v.Cap())
		for i := range room.Len() {
			// What lies in spare room is the first of the list once more, with lists that were asked already.
			if i < v.Len() {
				l = append(l, roomOf(v.Index(i)))
			} else {
				l = append(l, room.Index(i).Interface())
			}
		}
	case reflect.Struct:
		for i := range v.NumField() {
			l = append(l, roomOf(v.Field(i)))
		}
	default:
		return v.Interface()
	}
	return l
}

// overwrite makes all of v zero, lists and their spare room element by element.
func overwrite(v reflect.Value) {
	switch v.Kind() {
	case reflect.Slice:
		room := v.Slice(0, v.Cap())
		for i := range room.Len() {
			if i < v.Len() {
				overwrite(room.Index(i))
			}
			room.Index(i).SetZero()
		}
	case reflect.Struct:
		for i := range v.NumField() {
			overwrite(v.Field(i))
		}
	}
}

// answered is all that a call of Run answers.
type answered struct {
	Pass  api.Pass
	World api.World
	E     api.Errno
}

func run(p api.Program, w api.World, port int, b []byte) answered {
	pass, behind, e := source.Run(p, w, port, b)
	return answered{pass, behind, e}
}

// handed is all that it is handed.
type handed struct {
	P    api.Program
	W    api.World
	Port int
	B    []byte
}

func (h handed) run() answered { return run(h.P, h.W, h.Port, h.B) }

func TestMemory(t *testing.T) { // R4, R5
	t.Parallel()
	r := dice(3)
	done := 0
	for n := range 600 {
		m := made(r, n%40)
		plain := handed{m.p, m.world(), r.IntN(65536), m.bytes()}
		if n%5 == 0 {
			spoil(r, reflect.ValueOf(&plain.W).Elem())
		}
		want := copied(plain.run(), 0)
		given := copied(plain, 2)
		filled(reflect.ValueOf(&given).Elem())
		before := roomOf(reflect.ValueOf(given))
		first, second := given.run(), given.run()
		if !same(first, want) || !same(second, want) {
			t.Fatalf("Run(%.4000s) = %.4000s and %.4000s, want %.4000s", told(plain), told(first), told(second), told(want))
		}
		if !apart(given, first, second) {
			t.Fatalf("lists share memory: Run(%.4000s)", told(plain))
		}
		overwrite(reflect.ValueOf(&first).Elem())
		if !same(second, want) || !reflect.DeepEqual(roomOf(reflect.ValueOf(given)), before) {
			t.Fatalf("what was handed in, or another answer, is changed: Run(%.4000s)", told(plain))
		}
		overwrite(reflect.ValueOf(&given).Elem())
		if !same(second, want) {
			t.Fatalf("an answer changes with what was handed in: Run(%.4000s)", told(plain))
		}
		if want.E == api.OK {
			done++
		}
	}
	if done < 400 {
		t.Errorf("only %d calls had an answer", done)
	}
}

func TestMemoryOfNew(t *testing.T) { // R4, R5
	r := dice(4)
	for n := range 300 {
		p := made(r, n%20).p
		want, e := source.New(p)
		if e != api.OK {
			continue
		}
		want = copied(want, 0)
		given := copied(p, 2)
		filled(reflect.ValueOf(&given).Elem())
		before := roomOf(reflect.ValueOf(given))
		first, _ := source.New(given)
		second, _ := source.New(given)
		if !same(first, want) || !same(second, want) || !apart(given, first, second) {
			t.Fatalf("New(%.4000s) = %+v and %+v, want %+v", told(p), first, second, want)
		}
		overwrite(reflect.ValueOf(&first).Elem())
		if !same(second, want) || !reflect.DeepEqual(roomOf(reflect.ValueOf(given)), before) {
			t.Fatalf("what was handed in, or another answer, is changed: New(%.4000s)", told(p))
		}
		overwrite(reflect.ValueOf(&given).Elem())
		if !same(second, want) {
			t.Fatalf("an answer changes with what was handed in: New(%.4000s)", told(p))
		}
	}
}

// emptied is a copy in which lists that are nil are empty ones.
func emptied(v reflect.Value) {
	switch v.Kind() {
	case reflect.Slice:
		if v.IsNil() {
			v.Set(reflect.MakeSlice(v.Type(), 0, 0))
		}
		for i := range v.Len() {
			emptied(v.Index(i))
		}
	case reflect.Struct:
		for i := range v.NumField() {
			emptied(v.Field(i))
		}
	}
}

// TestEmpty: empty lists and none mean the same.
func TestEmpty(t *testing.T) { // R4
	r := dice(5)
	for n := range 500 {
		m := made(r, n%40)
		none := copied(handed{m.p, m.world(), r.IntN(65536), m.bytes()}, 0)
		empty := copied(none, 0)
		emptied(reflect.ValueOf(&empty).Elem())
		if a, b := none.run(), empty.run(); !same(a, b) {
			t.Fatalf("Run(%.4000s) = %.4000s, with empty lists %.4000s", told(none), told(a), told(b))
		}
	}
}

func TestManyAtOnce(t *testing.T) { // R5
	p := parsed(t, every)
	w := (&maker{Rand: dice(6), p: p}).world()
	b := []byte{1, 2, 3, 4, 5, 6, 7, 8, 9}
	want := run(p, w, 3, b)
	var group sync.WaitGroup
	for range 16 {
		group.Go(func() {
			for range 20 {
				if got := run(p, w, 3, b); got.E != api.OK || !same(got, want) {
					t.Errorf("Run = %+v", got)
				}
			}
		})
	}
	group.Wait()
}

func BenchmarkRun(b *testing.B) {
	p, _, _ := parse.Parse(every)
	w, _ := source.New(p)
	for b.Loop() {
		source.Run(p, w, 3, []byte{1, 2, 3, 4, 5, 6, 7, 8, 9})
	}
}
