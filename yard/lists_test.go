package yard_test

import (
	"reflect"
	"sync"
	"testing"

	"pointsman/api"
	"pointsman/yard"
)

// handed asks that a call changes nothing of what it is handed; what is made of it is zero behind the call.
func handed[H any](t *testing.T, plain H, call func(H)) {
	t.Helper()
	given := copied(plain, 2)
	filled(reflect.ValueOf(&given).Elem())
	before := roomOf(reflect.ValueOf(given))
	call(given)
	if !reflect.DeepEqual(roomOf(reflect.ValueOf(given)), before) {
		t.Fatalf("what was handed in is changed: of %.3000s", told(plain))
	}
	overwrite(reflect.ValueOf(&given).Elem())
}

// emptyLists is x with empty lists where it has none.
func emptyLists[T any](x T) T {
	x = copied(x, 0)
	emptied(reflect.ValueOf(&x).Elem())
	return x
}

// TestMemory: nothing that is handed in is kept or changed, and what is answered is memory of its own.
func TestMemory(t *testing.T) { // R4
	t.Parallel()
	r := maker{dice(3)}
	shared := map[api.OutKind]int{}
	for range 40 {
		c := r.anyConfig()
		m := modelOf(c)
		var y *yard.Yard
		handed(t, c, func(c yard.Config) { y = made(t, c) })
		var events []api.Event
		var all []api.Out
		for k := range 50 {
			e := r.event(t, m)
			l, err := m.do(e)
			if k%3 == 0 {
				e = emptyLists(e)
			}
			events, all = append(events, e), append(all, l...)
			var got done
			handed(t, e, func(e api.Event) {
				got = do(y, e)
				if w := y.World(); !apart(e, got, w, y.World()) {
					t.Fatalf("Do(%.3000s): lists share memory", told(e))
				}
			})
			if !same(got, done{l, err}) {
				t.Fatalf("Do(%.3000s) = %.3000s, want %.3000s, %d", told(e), told(got), told(l), err)
			}
			for _, o := range got.Outs {
				shared[o.Kind] += len(o.Data) + len(o.Values)
			}
			overwrite(reflect.ValueOf(&got).Elem())
			w := y.World()
			overwrite(reflect.ValueOf(&w).Elem())
			has(t, y, m.w)
		}
		handed(t, c, func(c yard.Config) {
			handed(t, events, func(l []api.Event) {
				got, other := run(c, l...), run(c, l...)
				if !same(got, outs(all...)) || !apart(c, l, got, other) {
					t.Fatalf("Run = %.3000s, want %.3000s; or lists share memory", told(got), told(all))
				}
			})
		})
	}
	for kind := api.OuReply; kind <= api.OuDigest; kind++ {
		if has := shared[kind]; (has > 100) != (kind != api.OuDrop) {
			t.Errorf("the sample says too little of %d: %d", kind, has)
		}
	}
}

// TestNoLists: with nothing in them lists of any make are alike.
func TestNoLists(t *testing.T) { // R4
	empty := yard.Config{Cache: 2, Queue: 2, Disk: 1000, Picks: []int{}}
	none := yard.Config{Cache: 2, Queue: 2, Disk: 1000}
	for _, l := range [][]api.Event{nil, {}, {packet(1), frame(), tick(0)}, emptyLists([]api.Event{packet(1), frame(), tick(0), send(1), crash(9)})} {
		if a, b := run(empty, l...), run(none, l...); !same(a, b) || a.E != api.OK {
			t.Errorf("Run(%+v): %+v and %+v", l, a, b)
		}
	}
}

// TestMemoryOfTwo: two switches that were handed the same share nothing.
func TestMemoryOfTwo(t *testing.T) { // R5
	c := roomy()
	c.Picks = []int{1, 0}
	a, b := made(t, c), made(t, c)
	program, entry, ports := asks(t, install(busy)), asks(t, write(row(2))), asks(t, write(group(2, 5, 6)))
	for _, e := range []api.Event{program, entry, ports, packet(2, 1, 2), tick(3)} {
		is(t, a, e, do(b, e))
	}
	was := b.World()
	if !apart(a.World(), was, program, entry, ports) {
		t.Error("two worlds share memory")
	}
	is(t, a, packet(1, 9), outs())
	is(t, a, crash(0), outs())
	is(t, a, asks(t, install(chapter)), outs())
	does(t, a, install(chapter), insertFive())
	has(t, b, was)
	is(t, b, send(9), outs(to(9, 1, 2)))
	does(t, b, write(row(4)))
	is(t, a, packet(0, 5), outs())
	is(t, a, send(9), outs(to(9, 5)))
}

// TestManyAtOnce: switches go on beside one another, of what they were all handed.
func TestManyAtOnce(t *testing.T) { // R5
	t.Parallel()
	r := maker{dice(6)}
	c := yard.Config{Cache: 2, Queue: 9, Disk: 100000, Picks: []int{1, 0, 3}}
	m := modelOf(c)
	var events []api.Event
	for range 150 {
		e := r.event(t, m)
		m.do(e)
		events = append(events, e)
	}
	want := told(run(c, events...))
	var group sync.WaitGroup
	for range 16 {
		group.Go(func() {
			for range 3 {
				if told(run(c, events...)) != want {
					t.Error("answers are not alike")
				}
			}
		})
	}
	group.Wait()
	if len(want) < 1000 {
		t.Errorf("the sample says too little: %s", want)
	}
}
