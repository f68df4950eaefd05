package state_test

import (
	"bytes"
	"fmt"
	"math"
	"reflect"
	"testing"

	"pointsman/api"
	"pointsman/disk"
	"pointsman/journal"
	"pointsman/lower"
	"pointsman/parse"
	"pointsman/rules"
	"pointsman/source"
	"pointsman/state"
	"pointsman/types"
	"pointsman/wire"
)

// model is a state and its disk as the chapters say them, word for word.
type model struct {
	looks
	there bool // something is installed
	room  int
	kept  []byte
	fails int // below 0: no failure is set
	down  bool
}

// ask is what a request comes to, if it is kept.
func (m model) ask(r api.Request) (model, int, api.Errno) {
	if r.Kind == api.RqWrite {
		if !m.there {
			return m, 0, api.ErrGone
		}
		w, at, e := rules.Write(m.P, m.W, r.Updates)
		m.W = w
		return m, at, e
	}
	p, line, e := parse.Parse(r.Source)
	if e == api.OK {
		line, e = types.Check(p)
	}
	if e != api.OK {
		return m, line, e
	}
	now := m.W.Now
	m.there, m.P = true, p
	m.C, _ = lower.Code(p)
	m.W, _ = source.New(p)
	m.W.Now = now
	return m, 0, api.OK
}

// named is a request with what its row names, and nothing else.
func named(r api.Request) api.Request {
	switch r.Kind {
	case api.RqInstall:
		return install(r.Source)
	case api.RqWrite:
		return write(r.Updates...)
	}
	return api.Request{Kind: 255}
}

// do changes the model as Do changes a state; behind is what a request that was cut comes to, if it was written whole.
func (m *model) do(r api.Request) (got done, behind *model) {
	if !same(r, named(r)) {
		return done{E: api.ErrArg}, nil
	}
	next, at, e := m.ask(r)
	if e != api.OK {
		return refused(at, e), nil
	}
	b, e := wire.EncodeRequest(r)
	if e != api.OK {
		return refused(0, e), nil
	}
	f, e := journal.Frame(b)
	if e != api.OK {
		return refused(0, e), nil
	}
	switch {
	case m.down:
		return done{E: api.ErrCut}, nil
	case len(f) > m.room-len(m.kept):
		return refused(0, api.ErrFull), nil
	case m.fails >= 0:
		n := min(m.fails, len(f))
		m.kept, m.down, m.fails = append(m.kept, f[:n]...), true, -1
		if n == len(f) {
			next.kept = m.kept
			behind = &next
		}
		return done{E: api.ErrCut}, behind
	}
	next.kept = append(m.kept, f...)
	*m = next
	return done{}, nil
}

// set likewise.
func (m *model) set(w api.World) api.Errno {
	// What a pass of no bytes refuses is no world of the program's.
	if _, _, e := source.Run(m.P, w, 0, nil); !m.there || e != api.OK || !same(w.Tables, m.W.Tables) || !same(w.Groups, m.W.Groups) {
		return api.ErrArg
	}
	m.W = copied(w, 0)
	return api.OK
}

func (m *model) tick(n int) api.Errno {
	if n < 0 {
		return api.ErrArg
	}
	m.W.Now = int(min(uint64(m.W.Now)+uint64(n), math.MaxInt32))
	return api.OK
}

// anew is what a state tells that is opened anew, by what was answered: behind is a request that was cut and is there whole.
func (m *model) anew(behind *model) {
	if behind != nil {
		m.looks, m.there = behind.looks, behind.there
	}
	m.W.Now = 0
	if m.there {
		w, _ := source.New(m.P)
		m.W.Arrays, m.W.Random = w.Arrays, w.Random
	}
	_, n := journal.Read(m.kept)
	m.kept = m.kept[:n:n]
}

// run is a state beside the model of it.
type run struct {
	testing.TB
	maker
	model
	s      *state.State
	d      *disk.Disk
	behind *model
	seen   map[string]int
}

// step does one thing to both, and asks that they answer alike.
func (r *run) step() {
	switch r.IntN(16) {
	case 0:
		n := pick(r.Rand, []int{0, 1, 7, 50, math.MaxInt32, math.MaxInt, -1, math.MinInt})
		r.both(fmt.Sprint("Tick ", n), r.s.Tick(n), r.tick(n))
	case 1, 2:
		w := r.world()
		r.both("Set "+told(w), r.s.Set(w), r.set(w))
	case 3, 4:
		n := r.IntN(120)
		if r.d.Fail(n) == api.OK {
			r.fails = n
		}
	case 5:
		r.down, r.fails = false, -1
		r.both("Up", r.d.Up(), api.OK)
		r.open()
	default:
		q := r.request(r.P, r.W)
		want, behind := r.do(q)
		if behind != nil {
			r.behind = behind
		}
		r.both("Do "+told(q), do(r.s, q), want)
		r.note(q, want)
	}
}

// both asks that what they answered and what they hold is alike.
func (r *run) both(what string, got, want any) {
	r.Helper()
	if !same(got, want) {
		r.Fatalf("%.3000s: %+v, want %+v", what, got, want)
	}
	if now := look(r.s); !same(now, r.looks) {
		r.Fatalf("behind %.3000s: %.3000s, want %.3000s", what, told(now), told(r.looks))
	}
	if !bytes.Equal(r.d.Bytes(), r.kept) || r.d.Down() != r.down {
		r.Fatalf("behind %.3000s: the disk keeps %d bytes, want %d", what, len(r.d.Bytes()), len(r.kept))
	}
}

func (r *run) open() {
	r.Helper()
	r.seen["open"]++
	if r.behind != nil {
		r.seen["open, whole"]++
	}
	r.anew(r.behind)
	r.behind = nil
	for range 2 {
		s, e := state.Open(r.d)
		if e != api.OK {
			r.Fatalf("Open: %d", e)
		}
		r.s = s
		r.both("Open", e, api.OK)
	}
}

// world is one to be set: mostly with what passes leave.
func (r *run) world() api.World {
	w := copied(r.W, 0)
	if r.IntN(3) == 0 {
		spoil(r.Rand, reflect.ValueOf(&w).Elem())
	} else if r.there {
		_, w, _ = source.Run(r.P, w, r.IntN(65536), []byte{1, 2, 3, 4, 5, 6, 7, 8, 9, 10, 11, 12, 13, 14, 15, 16, 17, 18})
		w.Random = r.Uint64()
	}
	return w
}

func (r *run) note(q api.Request, got done) {
	r.seen[fmt.Sprint("error ", int(got.E))]++
	if got.E == api.OK {
		r.seen[fmt.Sprint(q.Kind, " ", int(got.Reply.Error))]++
	}
	if got.Reply.At > 0 {
		r.seen["later"]++
	}
}

// TestModel: whatever is asked of a state, with whatever failures of the power between, it answers and holds what the chapter says.
func TestModel(t *testing.T) { // P20.1 to P20.4, P0.3, P0.4
	t.Parallel()
	r := &run{TB: t, maker: maker{dice(1)}, seen: map[string]int{}}
	for n := range 250 {
		r.model = model{room: pick(r.Rand, []int{300, 1000, 100000}), fails: -1}
		r.d = plugged(t, r.room)
		r.s, r.behind = opened(t, r.d), nil
		if n%4 > 0 {
			q := install(texts()[1+n%4])
			r.do(q)
			r.s.Do(q)
		}
		for range 60 {
			r.step()
		}
	}
	for _, k := range []string{
		"1 0", "1 1", "1 4", "1 5", "1 6", "1 7", "1 10", "2 0", "2 1", "2 6", "2 7", "2 10", "2 11", "2 12", "error 1", "error 13", "later", "open", "open, whole",
	} {
		if r.seen[k] < 20 {
			t.Errorf("the sample says too little of %q: %d", k, r.seen[k])
		}
	}
}

// TestModelOfOpen: of any records Open says what Do says of their requests, one behind the other.
func TestModelOfOpen(t *testing.T) { // P20.1, P20.4
	t.Parallel()
	m := maker{dice(2)}
	seen := map[api.Errno]int{}
	for range 1500 {
		now := model{room: math.MaxInt32, fails: -1}
		want := api.OK
		var b []byte
		for range m.IntN(12) {
			q := m.request(now.P, now.W)
			if len(b) == 0 && m.IntN(8) > 0 {
				q = install(pick(m.Rand, texts()))
			}
			if _, e := wire.EncodeRequest(q); e != api.OK {
				continue
			}
			f := recorded(t, q)
			if m.IntN(30) == 0 {
				f = record(t, append(f[8:], 0))
			}
			b = append(b, f...)
			if got, _ := now.do(q); !same(got, done{}) || !bytes.Equal(now.kept, b) {
				want = api.ErrForm
				break
			}
		}
		d := laid(t, append(b, make([]byte, m.IntN(5))...))
		s, e := state.Open(d)
		if e != want || (s == nil) != (want != api.OK) || !bytes.Equal(d.Bytes(), b) {
			t.Fatalf("Open = %v, %d, want %d; the disk keeps %d bytes of %d", s, e, want, len(d.Bytes()), len(b))
		}
		if got := look(s); want == api.OK && !same(got, now.looks) {
			t.Fatalf("Open: %.3000s, want %.3000s", told(got), told(now.looks))
		}
		seen[e]++
	}
	if seen[api.OK] < 300 || seen[api.ErrForm] < 300 {
		t.Errorf("the sample says too little: %v", seen)
	}
}
