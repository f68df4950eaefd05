package state_test

import (
	"reflect"
	"sync"
	"testing"

	"pointsman/api"
)

// handed asks that a call changes nothing of what it is handed; what is made of it is zero behind the call.
func handed[H any](t *testing.T, plain H, call func(H)) {
	t.Helper()
	given := copied(plain, 2)
	filled(reflect.ValueOf(&given).Elem())
	before := roomOf(reflect.ValueOf(given))
	call(given)
	if !reflect.DeepEqual(roomOf(reflect.ValueOf(given)), before) {
		t.Fatalf("what was handed in is changed: of %.3000s", told(plain))
	}
	overwrite(reflect.ValueOf(&given).Elem())
}

// emptyLists is x with empty lists where it has none.
func emptyLists[T any](x T) T {
	x = copied(x, 0)
	emptied(reflect.ValueOf(&x).Elem())
	return x
}

// TestMemory: nothing that is handed in is kept or changed, and what is answered is memory of its own.
func TestMemory(t *testing.T) { // R4
	t.Parallel()
	r := &run{TB: t, maker: maker{dice(3)}}
	fine, sets := 0, 0
	for n := range 120 {
		r.model = model{room: 100000, fails: -1}
		d := plugged(t, r.room)
		r.s = opened(t, d)
		for k := range 20 {
			q := r.request(r.P, r.W)
			if k == 0 {
				q = install(texts()[n%len(texts())])
			}
			want, _ := r.do(q)
			if k%3 == 0 {
				q = emptyLists(q)
			}
			handed(t, q, func(q api.Request) {
				if got := do(r.s, q); !same(got, want) {
					t.Fatalf("Do(%.3000s) = %+v, want %+v", told(q), got, want)
				}
			})
			if same(want, done{}) {
				fine++
			}
			apartAll(t, r)
			w := r.world()
			e := r.set(w)
			if k%3 == 1 {
				w = emptyLists(w)
			}
			handed(t, w, func(w api.World) {
				if got := r.s.Set(w); got != e {
					t.Fatalf("Set(%.3000s) = %d, want %d", told(w), got, e)
				}
			})
			if e == api.OK {
				sets++
			}
			apartAll(t, r)
		}
	}
	if fine < 1000 || sets < 1000 {
		t.Errorf("the sample says too little: %d requests, %d worlds", fine, sets)
	}
}

// apartAll asks that what a state answers shares no memory, and that what it holds stays as it is whatever is done to its answers.
func apartAll(t *testing.T, r *run) {
	t.Helper()
	first, second := look(r.s), look(r.s)
	if !apart(first, second) {
		t.Fatalf("lists share memory: %.3000s", told(first))
	}
	overwrite(reflect.ValueOf(&first).Elem())
	for _, got := range []looks{second, look(r.s)} {
		if !same(got, r.looks) {
			t.Fatalf("%.3000s, want %.3000s", told(got), told(r.looks))
		}
	}
}

// TestMemoryOfTwo: two states that were handed the same share nothing.
func TestMemoryOfTwo(t *testing.T) { // R4, R5
	a, d := stateOfThree(t)
	b := opened(t, plugged(t, 100000))
	c := opened(t, d)
	q := write(api.Update{Kind: api.UpInsert, Table: "u", Entry: ofU(7, number(16, 1))}, api.Update{Kind: api.UpGroup, N: 2, Ports: []int{5, 6}})
	does(t, b, install(three))
	does(t, b, q)
	w := b.World()
	was, other := look(a), look(c)
	if e := b.Set(w); e != api.OK || !apart(look(a), look(b), look(c), w, q) {
		t.Errorf("Set: %d; they share memory", e)
	}
	b.Tick(9)
	w.Arrays[0].Cells[0].Lo = 8
	if e := b.Set(w); e != api.OK {
		t.Errorf("Set: %d", e)
	}
	does(t, b, install(chapter))
	if !same(look(a), was) || !same(look(c), other) {
		t.Errorf("%+v and %+v, want %+v and %+v", look(a), look(c), was, other)
	}
	// The disk's bytes are a copy: nothing done to one is told by a state.
	kept := d.Bytes()
	overwrite(reflect.ValueOf(&kept).Elem())
	if got := look(opened(t, d)); !same(got, other) {
		t.Errorf("%+v, want %+v", got, other)
	}
}

// TestManyAtOnce: states over disks of their own go on beside one another, of what they were all handed.
func TestManyAtOnce(t *testing.T) { // R5
	l := []api.Request{install(three), write(groups(64)...), write(api.Update{Kind: api.UpInsert, Table: "t", Entry: ofT(1, "f")}), install(chapter), insertFive(), install(three), deleteFive()}
	all := func() []any {
		var got []any
		d := plugged(t, 100000)
		s := opened(t, d)
		for _, q := range l {
			got = append(got, do(s, q), look(s))
			s.Tick(1)
		}
		return append(got, look(opened(t, d)), d.Bytes())
	}
	want := told(all())
	var group sync.WaitGroup
	for range 16 {
		group.Go(func() {
			for range 10 {
				if told(all()) != want {
					t.Error("answers are not alike")
				}
			}
		})
	}
	group.Wait()
}
