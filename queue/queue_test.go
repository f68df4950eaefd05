package queue_test

import (
	"bytes"
	"math"
	"math/rand/v2"
	"slices"
	"testing"

	"pointsman/api"
	"pointsman/queue"
)

func made(t *testing.T, room int) *queue.Queue {
	t.Helper()
	q, e := queue.New(room)
	if q == nil || e != api.OK {
		t.Fatalf("New(%d): %v, %d", room, q, e)
	}
	return q
}

func is(t *testing.T, what string, got, want api.Errno) {
	t.Helper()
	if got != want {
		t.Errorf("%s: error %d, want %d", what, got, want)
	}
}

func one(port int, data ...byte) queue.Copy { return queue.Copy{Port: port, Data: data} }

// same: empty lists and none are alike.
func same(a, b []queue.Copy) bool {
	return slices.EqualFunc(a, b, func(a, b queue.Copy) bool { return a.Port == b.Port && bytes.Equal(a.Data, b.Data) })
}

func sends(t *testing.T, q *queue.Queue, n int, want ...queue.Copy) {
	t.Helper()
	if l, e := q.Send(n); e != api.OK || !same(l, want) {
		t.Errorf("Send(%d): %v, %d; want %v", n, l, e, want)
	}
}

func waits(t *testing.T, q *queue.Queue, want int) {
	t.Helper()
	if n := q.Len(); n != want {
		t.Errorf("Len: %d, want %d", n, want)
	}
}

// P17.1: each room from both sides of its bounds, and just as many copies wait as there is room for.
func TestNew(t *testing.T) {
	for _, room := range []int{-1, -2, -64, math.MinInt, api.MaxQueue + 1, api.MaxQueue + 2, 128, math.MaxInt} {
		if q, e := queue.New(room); q != nil || e != api.ErrArg {
			t.Errorf("New(%d): %v, %d; want none, ErrArg", room, q, e)
		}
	}
	for room := 0; room <= api.MaxQueue; room++ {
		q := made(t, room)
		waits(t, q, 0)
		sends(t, q, math.MaxInt)
		var all []queue.Copy
		for n := range room {
			all = append(all, one(n, byte(n)))
			is(t, "Put", q.Put(all[n]), api.OK)
			waits(t, q, n+1)
		}
		is(t, "Put above the room", q.Put(one(77)), api.ErrFull)
		waits(t, q, room)
		sends(t, q, room, all...)
		waits(t, q, 0)
	}
}

func TestExamples(t *testing.T) { // P17.1, P17.2
	q := made(t, 1)
	is(t, "Put", q.Put(one(5, 'a')), api.OK)
	is(t, "Put", q.Put(one(6, 'b')), api.ErrFull)
	sends(t, q, 9, one(5, 'a'))
	sends(t, q, 9)
	waits(t, q, 0)
}

// P17.2: a full queue stays as it is, and has room again for as many as went.
func TestFull(t *testing.T) {
	for _, room := range []int{1, 2, 3, api.MaxQueue - 1, api.MaxQueue} {
		q := made(t, room)
		for n := range room {
			is(t, "Put", q.Put(one(n)), api.OK)
		}
		for n := range 3 {
			is(t, "Put of a full one", q.Put(one(-n)), api.ErrFull)
			waits(t, q, room)
		}
		sends(t, q, 1, one(0))
		is(t, "Put where one went", q.Put(one(1000)), api.OK)
		is(t, "Put of a full one", q.Put(one(1001)), api.ErrFull)
		waits(t, q, room)
		l, e := q.Send(room)
		is(t, "Send", e, api.OK)
		for n, c := range l {
			if want := n + 1; c.Port != want && (n != room-1 || c.Port != 1000) {
				t.Errorf("room %d: at the place %d: port %d", room, n, c.Port)
			}
		}
		waits(t, q, 0)
	}
}

func TestNoRoom(t *testing.T) { // P17.1, P17.2
	q := made(t, 0)
	for range 3 {
		is(t, "Put", q.Put(one(1, 1)), api.ErrFull)
		is(t, "Put of nothing", q.Put(queue.Copy{}), api.ErrFull)
		for _, n := range []int{0, 1, api.MaxQueue, math.MaxInt} {
			sends(t, q, n)
		}
		if l, e := q.Send(-1); len(l) != 0 || e != api.ErrArg {
			t.Errorf("Send(-1): %v, %d", l, e)
		}
		waits(t, q, 0)
	}
}

// P17.2: none, fewer than wait, as many, and more.
func TestSend(t *testing.T) {
	for _, n := range []int{0, 1, 2, 4, 5, 6, api.MaxQueue, api.MaxQueue + 1, math.MaxInt} {
		q := made(t, 8)
		var all []queue.Copy
		for k := range 5 {
			all = append(all, one(k*k, bytes.Repeat([]byte{byte(k)}, k)...))
			is(t, "Put", q.Put(all[k]), api.OK)
		}
		first := min(n, 5)
		sends(t, q, n, all[:first]...)
		waits(t, q, 5-first)
		is(t, "Put behind them", q.Put(one(9, 9)), api.OK)
		sends(t, q, math.MaxInt, append(all[first:], one(9, 9))...)
		sends(t, q, math.MaxInt)
	}
}

func TestSendBelowNothing(t *testing.T) { // P17.2, R2
	for _, n := range []int{-1, -2, -api.MaxQueue, math.MinInt} {
		q := made(t, 2)
		for waiting := range 3 {
			if l, e := q.Send(n); len(l) != 0 || e != api.ErrArg {
				t.Errorf("Send(%d): %v, %d; want none, ErrArg", n, l, e)
			}
			waits(t, q, waiting)
			if waiting < 2 {
				is(t, "Put", q.Put(one(waiting, 1)), api.OK)
			}
		}
		sends(t, q, 2, one(0, 1), one(1, 1))
	}
}

// P17.2: no copy is asked which port it has, nor how many bytes.
func TestAnyCopies(t *testing.T) {
	var all []queue.Copy
	for _, port := range []int{0, 1, 65535, 65536, -1, math.MinInt, math.MaxInt} {
		for _, size := range []int{0, 1, api.MaxPacket, api.MaxPacket + 1, 100000} {
			all = append(all, one(port, bytes.Repeat([]byte{byte(size), 7}, size)[:size]...))
		}
	}
	all = append(all, queue.Copy{}, queue.Copy{Data: []byte{}})
	q := made(t, api.MaxQueue)
	for _, c := range all {
		is(t, "Put", q.Put(c), api.OK)
	}
	waits(t, q, len(all))
	sends(t, q, len(all), all...)
}

// P17.2: with any number waiting, one goes and one comes, so that the ring goes round from each of its places.
func TestRound(t *testing.T) {
	for _, room := range []int{1, 2, 3, 31, 32, 33, api.MaxQueue - 1, api.MaxQueue} {
		for waiting := range room {
			q := made(t, room)
			for n := range waiting {
				is(t, "Put", q.Put(one(n, byte(n), 1)), api.OK)
			}
			for n := range 5 * api.MaxQueue {
				is(t, "Put", q.Put(one(n+waiting, byte(n+waiting), 1)), api.OK)
				if l, e := q.Send(1); e != api.OK || !same(l, []queue.Copy{one(n, byte(n), 1)}) || q.Len() != waiting {
					t.Fatalf("room %d, %d waiting: Send(1) number %d: %v, %d; %d wait", room, waiting, n, l, e, q.Len())
				}
			}
		}
	}
}

// P17.2, R2: calls in any order, held against a list behind each of them.
func TestAnyOrder(t *testing.T) {
	dice := rand.New(rand.NewPCG(17, 2))
	for room := 0; room <= api.MaxQueue; room++ {
		q := made(t, room)
		var list []queue.Copy
		for step := range 60 * (room + 1) {
			if c := one(step, byte(step), byte(step>>8)); dice.IntN(3) > 0 {
				c.Data = c.Data[:dice.IntN(3)]
				got, want := q.Put(c), api.ErrFull
				if len(list) < room {
					list, want = append(list, c), api.OK
				}
				is(t, "Put", got, want)
			} else {
				n := dice.IntN(room/4+4) - 1
				got, e := q.Send(n)
				var want []queue.Copy
				if n >= 0 {
					want, list = list[:min(n, len(list))], list[min(n, len(list)):]
				}
				if !same(got, want) || (e != api.OK) != (n < 0) {
					t.Fatalf("room %d, step %d: Send(%d) = %v, %d; want %v", room, step, n, got, e, want)
				}
			}
			if q.Len() != len(list) {
				t.Fatalf("room %d, step %d: %d wait, want %d", room, step, q.Len(), len(list))
			}
		}
		sends(t, q, math.MaxInt, list...)
	}
}

// R1, R3: ErrNil comes ahead of what else is wrong.
func TestNotThere(t *testing.T) {
	for _, q := range []*queue.Queue{nil, {}, new(queue.Queue)} {
		for range 2 {
			for _, c := range []queue.Copy{{}, one(1), one(-1, 2, 3)} {
				is(t, "Put", q.Put(c), api.ErrNil)
			}
			for _, n := range []int{0, 1, -1, api.MaxQueue, math.MinInt, math.MaxInt} {
				if l, e := q.Send(n); len(l) != 0 || e != api.ErrNil {
					t.Errorf("Send(%d): %v, %d; want none, ErrNil", n, l, e)
				}
			}
			waits(t, q, 0)
		}
	}
}
