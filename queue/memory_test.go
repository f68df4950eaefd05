package queue_test

import (
	"bytes"
	"math"
	"reflect"
	"runtime"
	"slices"
	"sync"
	"testing"
	"weak"

	"pointsman/api"
	"pointsman/queue"
)

// spoil overwrites all bytes of copies, their spare room too, and the copies.
func spoil(l []queue.Copy) {
	l = l[:cap(l)]
	for _, c := range l {
		overwrite(c.Data)
	}
	for i := range l {
		l[i] = queue.Copy{Port: -7, Data: []byte("spoilt")}
	}
}

func overwrite(b []byte) {
	b = b[:cap(b)]
	for i := range b {
		b[i] = 0xee
	}
}

// R4: what waits is not what was handed in, only as it was.
func TestPutKeepsTheContent(t *testing.T) {
	q := made(t, 4)
	room := []byte{1, 2, 3, 4, 5, 6}
	for _, b := range [][]byte{room[:3], room[:0], room[:3], room[2:5:5]} {
		is(t, "Put", q.Put(queue.Copy{Port: 1, Data: b}), api.OK)
	}
	if !bytes.Equal(room, []byte{1, 2, 3, 4, 5, 6}) {
		t.Errorf("handed in, and now %v", room)
	}
	overwrite(room)
	l, e := q.Send(9)
	if want := []queue.Copy{one(1, 1, 2, 3), one(1), one(1, 1, 2, 3), one(1, 3, 4, 5)}; e != api.OK || !same(l, want) {
		t.Errorf("Send: %v, %d", l, e)
	}
	overwrite(l[0].Data)
	if !bytes.Equal(room, bytes.Repeat([]byte{0xee}, 6)) || !same(l[1:], []queue.Copy{one(1), one(1, 1, 2, 3), one(1, 3, 4, 5)}) {
		t.Errorf("copies share memory: %v, %v", room, l)
	}
}

// R4: what was sent is the caller's: neither what waits nor what goes later changes with it.
func TestSendAnswersItsOwn(t *testing.T) {
	q := made(t, 6)
	for n := range 5 * api.MaxQueue {
		for k := range 6 {
			is(t, "Put", q.Put(one(k, byte(n), byte(k))), api.OK)
		}
		var parts [][]queue.Copy
		for _, k := range []int{0, 2, 1, 0, 9, 9} {
			l, e := q.Send(k)
			is(t, "Send", e, api.OK)
			parts = append(parts, l)
		}
		want := [][]queue.Copy{nil, {one(0, byte(n), 0), one(1, byte(n), 1)}, {one(2, byte(n), 2)}, nil, {one(3, byte(n), 3), one(4, byte(n), 4), one(5, byte(n), 5)}, nil}
		for i := range parts {
			if !same(parts[i], want[i]) {
				t.Fatalf("round %d: Send number %d: %v, want %v", n, i, parts[i], want[i])
			}
			spoil(parts[i])
		}
	}
}

// R4: an answer that is spoilt while others wait.
func TestSendLeavesWhatWaits(t *testing.T) {
	q := made(t, 3)
	for k := range 3 {
		is(t, "Put", q.Put(one(k, byte(k), 1)), api.OK)
	}
	l, _ := q.Send(2)
	spoil(l)
	sends(t, q, 3, one(2, 2, 1))
}

// R4: a queue's errors change nothing of what was handed in, nor keep it.
func TestFullKeepsNothing(t *testing.T) {
	q := made(t, 1)
	is(t, "Put", q.Put(one(1, 1)), api.OK)
	b := []byte{5, 6, 7}
	is(t, "Put", q.Put(queue.Copy{Port: 2, Data: b[:2]}), api.ErrFull)
	if !bytes.Equal(b, []byte{5, 6, 7}) {
		t.Errorf("handed in, and now %v", b)
	}
	sends(t, q, 2, one(1, 1))
}

// given is what Copies is handed; with spare room that has something in it.
func given(spare int) ([]api.Group, api.Pass) {
	ports := func(l ...int) []int { return append(l, slices.Repeat([]int{77}, spare)...)[: len(l) : len(l)+spare] }
	groups := append([]api.Group{{Ports: ports(1, 2)}, {Ports: ports()}, {Ports: ports(3)}}, slices.Repeat([]api.Group{{Ports: []int{88}}}, spare)...)
	values := append([]api.Bits{{W: 8, Lo: 1}}, slices.Repeat([]api.Bits{{W: 9}}, spare)...)
	effects := append([]api.Effect{clone(0), {Kind: api.EfDigest, Data: values[:1]}, clone(1), clone(2), clone(0)}, slices.Repeat([]api.Effect{clone(9)}, spare)...)
	packet := append([]byte("packet"), bytes.Repeat([]byte{99}, spare)...)
	return groups[:3], api.Pass{End: api.EndSent, Packet: packet[:6], Port: 7, Effects: effects[:5]}
}

// TestCopiesMemory: what is handed in stays as it was, its spare room too; answers are memory of their own, and so is each list in one. (P17.3, R4)
func TestCopiesMemory(t *testing.T) {
	want := to("packet", 1, 2, 3, 1, 2, 7)
	for spare := range 4 {
		groups, p := given(spare)
		first, e := queue.Copies(groups, p)
		second, f := queue.Copies(groups, p)
		if e != api.OK || f != api.OK || !same(first, want) || !same(second, want) {
			t.Fatalf("Copies: %v, %d, %v, %d", first, e, second, f)
		}
		unchanged(t, groups, p, spare)
		for i := range first {
			overwrite(first[i].Data)
			if !same(first[i+1:], want[i+1:]) {
				t.Fatalf("copies of one answer share memory: %v", first)
			}
		}
		spoil(first)
		unchanged(t, groups, p, spare)
		if !same(second, want) {
			t.Fatalf("two answers share memory: %v", second)
		}
		overwrite(p.Packet)
		clear(groups[0].Ports)
		clear(p.Effects)
		clear(groups)
		if !same(second, want) {
			t.Fatalf("an answer changes with what was handed in: %v", second)
		}
	}
}

func unchanged(t *testing.T, groups []api.Group, p api.Pass, spare int) {
	t.Helper()
	wantGroups, want := given(spare)
	whole := func(groups []api.Group, p api.Pass) []any {
		groups = groups[:3+spare]
		l := []any{groups, p, p.Packet[:6+spare], p.Effects[:5+spare], p.Effects[1].Data[:1+spare]}
		for _, g := range groups[:3] {
			l = append(l, g.Ports[:len(g.Ports)+spare])
		}
		return l
	}
	if !reflect.DeepEqual(whole(groups, p), whole(wantGroups, want)) {
		t.Fatalf("what was handed in is %v, %+v", groups, p)
	}
}

// R4: also where the answer is an error.
func TestCopiesErrorChangesNothing(t *testing.T) {
	for spare := range 3 {
		groups, p := given(spare)
		p.Effects[4].Group = 3
		comesNot(t, groups, p)
		p.Effects[4].Group = 0
		unchanged(t, groups, p, spare)
	}
}

// R5: two queues share nothing but what both were handed.
func TestTwoQueues(t *testing.T) {
	a, b := made(t, 3), made(t, 2)
	both := one(1, 1, 2)
	is(t, "Put", a.Put(both), api.OK)
	is(t, "Put", b.Put(both), api.OK)
	is(t, "Put", a.Put(one(2)), api.OK)
	waits(t, b, 1)
	l, _ := a.Send(1)
	spoil(l)
	waits(t, b, 1)
	sends(t, b, 1, one(1, 1, 2))
	is(t, "Put", b.Put(one(3)), api.OK)
	is(t, "Put", b.Put(one(4)), api.OK)
	is(t, "Put", b.Put(one(5)), api.ErrFull)
	is(t, "Put", a.Put(one(6)), api.OK)
	sends(t, a, math.MaxInt, one(2), one(6))
	sends(t, b, math.MaxInt, one(3), one(4))
}

// R5: queues, each by a goroutine of its own, and passes that all of them hand in.
func TestQueuesSideBySide(t *testing.T) {
	groups, p := given(2)
	var all sync.WaitGroup
	for n := range 8 {
		q := made(t, 12)
		all.Go(func() {
			for range 200 {
				l, e := queue.Copies(groups, p)
				is(t, "Copies", e, api.OK)
				for _, c := range l {
					is(t, "Put", q.Put(c), api.OK)
				}
				is(t, "Put", q.Put(one(n, byte(n))), api.OK)
				spoil(l)
				sends(t, q, 7, append(to("packet", 1, 2, 3, 1, 2, 7), one(n, byte(n)))...)
			}
		})
	}
	all.Wait()
}

// TestSentIsLetGo: of what was sent a queue keeps nothing, also where nothing else has stood in its place since. (P17.2, R4)
func TestSentIsLetGo(t *testing.T) {
	q := made(t, 2)
	sent := func() weak.Pointer[byte] {
		is(t, "Put", q.Put(queue.Copy{Data: make([]byte, 4096)}), api.OK)
		l, e := q.Send(1)
		if e != api.OK || len(l) != 1 || len(l[0].Data) != 4096 {
			t.Fatalf("Send: %d copies, %d", len(l), e)
		}
		return weak.Make(&l[0].Data[0])
	}
	kept := sent()
	for range 10 {
		if runtime.GC(); kept.Value() == nil {
			break
		}
	}
	if kept.Value() != nil {
		t.Error("what was sent is kept")
	}
	is(t, "Put", q.Put(one(1)), api.OK)
}
