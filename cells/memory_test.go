package cells_test

import (
	"reflect"
	"slices"
	"sync"
	"testing"

	"pointsman/api"
	"pointsman/cells"
)

// handed is all that the calls are handed.
type handed struct {
	A    api.Array
	I, V api.Bits
	Now  int
}

// copied has lists of its own with so much spare room, in which something else lies; with none, empty ones are nil.
func copied(a api.Array, spare int) api.Array {
	a.Cells = roomy(a.Cells, api.Bits{W: 7, Lo: 77}, spare)
	a.Last = roomy(a.Last, 777, spare)
	return a
}

func roomy[T any](l []T, other T, spare int) []T {
	if len(l)+spare == 0 {
		return nil
	}
	return append(append([]T(nil), l...), slices.Repeat([]T{other}, spare)...)[: len(l) : len(l)+spare]
}

// whole has the spare room of its lists as part of them.
func whole(a api.Array) api.Array {
	a.Cells = a.Cells[:cap(a.Cells)]
	a.Last = a.Last[:cap(a.Last)]
	return a
}

// overwrite lays something else into all lists, spare room too.
func overwrite(a api.Array) {
	a = whole(a)
	for i := range a.Cells {
		a.Cells[i] = api.Bits{W: 9, Hi: 99, Lo: 999}
	}
	for i := range a.Last {
		a.Last[i] = -9
	}
}

// apart: no two lists of these arrays share memory, spare room too.
func apart(l ...api.Array) bool {
	var spans [][2]uintptr
	note := func(v reflect.Value) {
		if size := uintptr(v.Cap()) * v.Type().Elem().Size(); size > 0 {
			spans = append(spans, [2]uintptr{v.Pointer(), v.Pointer() + size})
		}
	}
	for _, a := range l {
		note(reflect.ValueOf(a.Cells))
		note(reflect.ValueOf(a.Last))
	}
	slices.SortFunc(spans, func(a, b [2]uintptr) int { return slices.Compare(a[:], b[:]) })
	for i := 1; i < len(spans); i++ {
		if spans[i][0] < spans[i-1][1] {
			return false
		}
	}
	return true
}

func TestMemory(t *testing.T) { // R4, R5
	r := dice(3)
	done := 0
	for range 5000 {
		plain := madeHanded(r)
		for _, c := range calls {
			given := plain
			given.A = copied(plain.A, 3)
			before := copied(whole(given.A), 0)
			want := c.model(plain)
			first, second := c.do(given), c.do(given)
			if !sameAnswer(first, want) || !sameAnswer(second, want) {
				t.Fatalf("%s of %+v: %+v and %+v, want %+v", c.name, plain, first, second, want)
			}
			if !apart(given.A, first.A, second.A) {
				t.Fatalf("%s of %+v: lists share memory", c.name, plain)
			}
			overwrite(first.A)
			if !sameAnswer(second, want) || !sameArray(whole(given.A), before) {
				t.Fatalf("%s of %+v: what was handed in, or another answer, is changed", c.name, plain)
			}
			overwrite(given.A)
			if !sameAnswer(second, want) {
				t.Fatalf("%s of %+v: an answer changes with what was handed in", c.name, plain)
			}
			if want.E == api.OK {
				done++
			}
		}
	}
	if done < 2000 {
		t.Errorf("only %d calls had an answer", done)
	}
}

func TestCheckChangesNothing(t *testing.T) { // R4
	r := dice(4)
	for range 2000 {
		a, b := copied(madeArray(r), 2), copied(madeArray(r), 2)
		spoilArray(r, &b)
		l := []api.Array{a, b, {Name: "spare"}}
		before := []api.Array{copied(whole(a), 0), copied(whole(b), 0)}
		cells.Check(l[:2])
		if !sameArray(whole(l[0]), before[0]) || !sameArray(whole(l[1]), before[1]) || l[2].Name != "spare" {
			t.Fatalf("Check changed %+v", l)
		}
	}
}

func TestNewMemory(t *testing.T) { // R4, R5
	room := api.Program{decl(api.DeMeter), decl(api.DeMeter), decl(api.DeRegister), decl(api.DeCounter), decl(api.DeCounter)}
	p := room[:4]
	want := modelNew(p)
	first, second := cells.New(p), cells.New(p)
	if !sameArrays(first, want) || !sameArrays(second, want) || !apart(append(slices.Clone(first), second...)...) {
		t.Fatalf("New = %+v and %+v", first, second)
	}
	for _, a := range first {
		overwrite(a)
	}
	clear(first[:cap(first)])
	if !reflect.DeepEqual(room, api.Program{decl(api.DeMeter), decl(api.DeMeter), decl(api.DeRegister), decl(api.DeCounter), decl(api.DeCounter)}) {
		t.Errorf("New changed %+v", room)
	}
	clear(room)
	if !sameArrays(second, want) {
		t.Errorf("an answer changes with another one, or with what was handed in: %+v", second)
	}
}

// TestEmpty: empty lists and none mean the same.
func TestEmpty(t *testing.T) { // R4
	r := dice(5)
	for range 3000 {
		none := madeHanded(r)
		spoilArray(r, &none.A)
		none.A = copied(none.A, 0)
		empty := none
		empty.A.Cells = append([]api.Bits{}, none.A.Cells...)
		empty.A.Last = append([]int{}, none.A.Last...)
		if cells.Check([]api.Array{none.A}) != cells.Check([]api.Array{empty.A}) {
			t.Fatalf("Check of %+v", none)
		}
		for _, c := range calls {
			if a, b := c.do(none), c.do(empty); !sameAnswer(a, b) {
				t.Fatalf("%s of %+v = %+v and %+v", c.name, none, a, b)
			}
		}
	}
}

// TestAnything: none panics, whatever it is given.
func TestAnything(t *testing.T) { // R1
	r := dice(6)
	for range 20000 {
		h := handed{A: api.Array{Kind: api.DeclKind(pick(r, r.IntN(12), r.IntN(256))), W: anyInt(r), Rate: anyInt(r), Burst: anyInt(r)}, I: anyBits(r), V: anyBits(r), Now: anyInt(r)}
		for range r.IntN(4) {
			h.A.Cells = append(h.A.Cells, anyBits(r))
		}
		for range pick(r, len(h.A.Cells), r.IntN(4)) {
			h.A.Last = append(h.A.Last, anyInt(r))
		}
		for _, c := range calls {
			if got, want := c.do(h), c.model(h); !sameAnswer(got, want) {
				t.Fatalf("%s of %+v = %+v, want %+v", c.name, h, got, want)
			}
		}
		cells.Random(r.Uint64(), anyInt(r))
	}
}

func TestManyAtOnce(t *testing.T) { // R5
	h := handed{A: meter(3, 5, 1, 0, 5), I: num(8, 1), Now: 9}
	want := modelMeter(h)
	var group sync.WaitGroup
	for range 16 {
		group.Go(func() {
			for range 100 {
				if a, v, e := cells.Meter(h.A, h.I, h.Now); !sameAnswer(answer{a, v, e}, want) {
					t.Errorf("Meter = %v, %v, %d", a, v, e)
				}
			}
		})
	}
	group.Wait()
}
