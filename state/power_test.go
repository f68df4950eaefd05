package state_test

import (
	"bytes"
	"fmt"
	"math"
	"testing"

	"pointsman/api"
)

// cutAt has the power fail behind n bytes of a request: behind Up and Open the state is as ahead of it, or as behind it.
func cutAt(t *testing.T, n int, ahead []api.Request, r api.Request) {
	t.Helper()
	what := fmt.Sprintf("%d bytes of %.60s", n, told(r))
	d := plugged(t, 100000)
	s := opened(t, d)
	for _, r := range ahead {
		does(t, s, r)
	}
	before, keeps, bytesOfIt := look(s), d.Bytes(), recorded(t, r)
	s.Tick(5)
	d.Fail(n)
	if got := do(s, r); !same(got, done{E: api.ErrCut}) {
		t.Fatalf("%s: %+v", what, got)
	}
	laid := min(n, len(bytesOfIt))
	if want := append(keeps, bytesOfIt[:laid]...); !bytes.Equal(d.Bytes(), want) || !d.Down() {
		t.Fatalf("%s: the disk keeps %x, want %x", what, d.Bytes(), want)
	}
	// Ahead of Open it is as if nothing had been done, and while the power is off nothing can be.
	was := before
	was.W.Now = 5
	for range 2 {
		if got := look(s); !same(got, was) {
			t.Fatalf("%s: %+v, want %+v", what, got, was)
		}
		stays(t, what, s, d, func() {
			for _, r := range []api.Request{r, install(chapter)} {
				if got := do(s, r); !same(got, done{E: api.ErrCut}) {
					t.Fatalf("%s: %.60s while it is off: %+v", what, told(r), got)
				}
			}
		})
	}
	d.Up()
	if got := look(s); !same(got, was) {
		t.Fatalf("%s: up: %+v, want %+v", what, got, was)
	}
	want := before
	if laid == len(bytesOfIt) {
		other := opened(t, plugged(t, 100000))
		for _, r := range append(ahead[:len(ahead):len(ahead)], r) {
			does(t, other, r)
		}
		want = look(other)
	}
	s = opened(t, d)
	for range 2 {
		if got := look(s); !same(got, want) {
			t.Fatalf("%s: opened anew: %+v, want %+v", what, got, want)
		}
		s = opened(t, d)
	}
	goesOn(t, what, ahead, r, laid == len(bytesOfIt), func(r api.Request) done { return do(s, r) })
	if got := look(opened(t, d)); !same(got, look(s)) {
		t.Fatalf("%s: it does not go on", what)
	}
}

// goesOn asks that what is done next finds what was done, and only that.
func goesOn(t *testing.T, what string, ahead []api.Request, r api.Request, whole bool, ask func(r api.Request) done) {
	t.Helper()
	if r.Kind != api.RqWrite {
		if got := ask(insertFive()); whole && !same(got, done{}) || !whole && len(ahead) == 0 && !same(got, refused(0, api.ErrGone)) {
			t.Fatalf("%s: an insert: %+v", what, got)
		}
		return
	}
	want := done{}
	if whole {
		want = refused(0, api.ErrThere)
	}
	if got := ask(r); !same(got, want) {
		t.Fatalf("%s: once more: %+v, want %+v", what, got, want)
	}
}

// TestPower: the power fails at each byte of what is being written.
func TestPower(t *testing.T) { // P20.2, P20.4, P0.4
	t.Parallel()
	second := install("register r 8 2; " + chapter)
	inserts := write(insertFive().Updates[0], api.Update{Kind: api.UpGroup, N: 4, Ports: []int{1, 2}}, api.Update{Kind: api.UpDefault, Table: "t", Entry: api.Entry{Action: "f", Args: []api.Bits{number(16, 3)}}})
	for _, c := range []struct {
		ahead []api.Request
		r     api.Request
	}{
		{nil, install(chapter)}, {[]api.Request{install(three)}, second}, {[]api.Request{install(chapter)}, insertFive()}, {[]api.Request{second, inserts, deleteFive()}, inserts},
	} {
		n := len(recorded(t, c.r))
		for i := range n + 3 {
			cutAt(t, i, c.ahead, c.r)
		}
		cutAt(t, math.MaxInt, c.ahead, c.r)
	}
}

// TestPowerAtNothing: the power fails though nothing is asked of it, and a request that changes nothing is cut as any other.
func TestPowerAtNothing(t *testing.T) { // P20.2
	s, d := stateWith(t, 10000, chapter)
	d.Fail(9)
	if s.Tick(1) != api.OK || s.Set(s.World()) != api.OK || d.Down() {
		t.Error("a tick, a world: they are not written")
	}
	stays(t, "what is refused", s, d, func() {
		if got := do(s, deleteFive()); !same(got, refused(0, api.ErrGone)) {
			t.Errorf("%+v", got)
		}
	})
	if got := do(s, write()); !same(got, done{E: api.ErrCut}) || !d.Down() {
		t.Errorf("write nothing: %+v", got)
	}
	// While the power is off what is refused is told as ever, and ticks go by.
	if got := do(s, deleteFive()); !same(got, refused(0, api.ErrGone)) {
		t.Errorf("while it is off: %+v", got)
	}
	if got := do(s, install("\n(")); !same(got, refused(1, api.ErrSyntax)) {
		t.Errorf("while it is off: %+v", got)
	}
	if s.Tick(1) != api.OK || s.World().Now != 2 || s.Set(s.World()) != api.OK {
		t.Error("a tick, a world, while it is off")
	}
	d.Up()
	if got := look(opened(t, d)); !same(got, begun(t, chapter)) {
		t.Errorf("%+v", got)
	}
}

// TestPowerAgain: the power fails again and again, in what is written behind a failure too.
func TestPowerAgain(t *testing.T) { // P20.4, P0.4
	s, d := stateWith(t, 100000, chapter)
	want := begun(t, chapter)
	row := func(n int) api.Request {
		return write(api.Update{Kind: api.UpGroup, N: n % 16, Ports: []int{n, n}})
	}
	for n := range 200 {
		if n%5 == 0 {
			does(t, s, row(n))
			want.W.Groups[n%16].Ports = []int{n, n}
			continue
		}
		whole := len(recorded(t, row(n)))
		d.Fail(n % (whole + 2))
		if got := do(s, row(n)); !same(got, done{E: api.ErrCut}) {
			t.Fatalf("%d: %+v", n, got)
		}
		d.Up()
		if n%(whole+2) >= whole {
			want.W.Groups[n%16].Ports = []int{n, n}
		}
		s = opened(t, d)
		if got := look(s); !same(got, want) {
			t.Fatalf("%d: %+v, want %+v", n, got, want)
		}
	}
}
