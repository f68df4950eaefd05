package yard_test

import (
	"fmt"
	"math"
	"strings"
	"testing"

	"pointsman/api"
	"pointsman/yard"
)

// busy is a program with cells of all kinds, and the chapter's table with another key. Of each packet a copy waits.
const busy = "counter c 2; register r 8 1; meter y 1 1 3; meta { f 1; m 8; } control { count c[1w0]; random meta.m; write r[1w0] = meta.m; meter meta.f = y[1w0]; apply t; } action f(p 16) { meta.out = p; } table t { key { meta.port exact; } actions f; default f(16w1); size 4; }"

// row is an update that puts one more entry into the table of busy.
func row(n uint64) api.Update {
	return api.Update{Kind: api.UpInsert, Table: "t", Entry: api.Entry{Matches: []api.Match{{Value: number(16, n)}}, Action: "f", Args: []api.Bits{number(16, 9)}}}
}

// recorded is how many bytes a request has on the disk: those of its frame, and eight of the record.
func recorded(t *testing.T, r api.Request) int {
	t.Helper()
	return len(asks(t, r).Data) + 8
}

// asNew is what is left of the world that requests and passes made once the switch began anew: tables and groups.
func asNew(t *testing.T, l []api.Request, w api.World) api.World {
	t.Helper()
	text, there := textOf(l)
	if !there {
		return api.World{}
	}
	n := begun(t, text)
	n.Tables, n.Groups = w.Tables, w.Groups
	return n
}

// textOf is the program that requests leave installed; false, if none.
func textOf(l []api.Request) (text string, there bool) {
	for _, r := range l {
		if r.Kind == api.RqInstall {
			text, there = r.Source, true
		}
	}
	return text, there
}

// stirred has a switch that has done these requests, with cells, ticks and copies that are not as new.
func stirred(t *testing.T, ahead []api.Request) *yard.Yard {
	t.Helper()
	y := with(t, ahead...)
	is(t, y, tick(5), outs())
	for n := range 5 {
		do(y, packet(n, 5, 7))
	}
	if text, _ := textOf(ahead); text == busy && y.World().Arrays[0].Cells[0].Lo != 5 {
		t.Fatalf("all is as new: %s", told(y.World()))
	}
	return y
}

// cutAt has the power fail behind n bytes of a request. Nothing comes out, and the switch began anew: with what it had ahead of the request, or with what it has behind it.
func cutAt(t *testing.T, n int, ahead []api.Request, r api.Request) {
	t.Helper()
	what := fmt.Sprintf("%d bytes of %.60s", n, told(r))
	y := stirred(t, ahead)
	is(t, y, crash(n), outs())
	had := y.World()
	all := ahead[:len(ahead):len(ahead)]
	whole := n >= recorded(t, r)
	if whole {
		all = append(all, r)
		had = with(t, all...).World()
	}
	want := asNew(t, all, had)
	is(t, y, asks(t, r), outs())
	if got := y.World(); !same(got, want) {
		t.Fatalf("%s: %.3000s, want %.3000s", what, told(got), told(want))
	}
	is(t, y, send(9), outs())
	// It is as one that has done just what was answered, and the cut request, if it is there.
	other := with(t, all...)
	is(t, y, asks(t, r), do(other, asks(t, r)))
	for _, e := range []api.Event{packet(3, 5, 7), tick(2), packet(3, 5), packet(4), asks(t, read("t")), asks(t, cell("c", 0)), send(2), asks(t, deleteFive()), asks(t, install("(")), packet(3, 5), send(9)} {
		if got, want := do(y, e), do(other, e); !same(got, want) {
			t.Fatalf("%s: Do(%s) = %.2000s, want %.2000s", what, told(e), told(got), told(want))
		}
		has(t, y, other.World())
	}
}

// TestPower: the power fails at each byte of a request, and beyond it.
func TestPower(t *testing.T) { // P21.2, P21.5, P0.4
	t.Parallel()
	batch := write(row(3), group(4, 1, 2), api.Update{Kind: api.UpDefault, Table: "t", Entry: api.Entry{Action: "f", Args: []api.Bits{number(16, 3)}}}, row(1))
	for _, c := range []struct {
		ahead []api.Request
		r     api.Request
	}{
		{nil, install(chapter)}, {nil, install("")}, {[]api.Request{install("")}, install(busy)}, {[]api.Request{install(busy), write(row(2))}, install(chapter)}, {[]api.Request{install(chapter), insertFive()}, install(busy)},
		{[]api.Request{install(busy), write(row(2))}, install(busy)}, {[]api.Request{install(chapter)}, insertFive()}, {[]api.Request{install(chapter), insertFive()}, deleteFive()}, {[]api.Request{install(busy), write(row(2))}, batch}, {[]api.Request{install(busy)}, write()},
	} {
		n := recorded(t, c.r)
		for i := range n + 3 {
			cutAt(t, i, c.ahead, c.r)
		}
		cutAt(t, math.MaxInt, c.ahead, c.r)
	}
}

// TestPowerNothing: a cut program with nothing installed ahead of it leaves nothing installed, and one that was laid whole is.
func TestPowerNothing(t *testing.T) { // P21.2, P21.5
	n := recorded(t, install(chapter))
	for _, whole := range []bool{false, true} {
		y := made(t, roomy())
		is(t, y, tick(3), outs())
		is(t, y, crash(n-1), outs())
		if whole {
			is(t, y, crash(n), outs())
		}
		is(t, y, asks(t, install(chapter)), outs())
		if whole {
			has(t, y, begun(t, chapter))
			is(t, y, packet(0, 5), outs())
			does(t, y, insertFive())
			continue
		}
		has(t, y, api.World{})
		is(t, y, packet(0, 5), outs(drop(api.EndDropped, 0)))
		for _, r := range []api.Request{insertFive(), read("t"), cell("c", 0)} {
			is(t, y, asks(t, r), replies(t, api.ErrGone, 0))
		}
		does(t, y, install(chapter))
	}
}

// TestPowerWaits: a failure stays set until a request is written; what is not written does not make use of it.
func TestPowerWaits(t *testing.T) { // P21.2
	c := yard.Config{Queue: 4, Disk: recorded(t, install(chapter)) + recorded(t, insertFive())}
	y := made(t, c)
	does(t, y, install(chapter))
	is(t, y, crash(2), outs())
	for range 2 {
		is(t, y, tick(1), outs())
		is(t, y, packet(0, 5), outs())
		is(t, y, asks(t, read("t")), outs(reply(t, api.Reply{})))
		is(t, y, asks(t, install("(")), replies(t, api.ErrSyntax, 0))
		is(t, y, asks(t, deleteFive()), replies(t, api.ErrGone, 0))
		is(t, y, asks(t, install(busy)), replies(t, api.ErrFull, 0))
		is(t, y, asks(t, install(strings.Repeat(" ", 65535))), replies(t, api.ErrArg, 0))
		is(t, y, frame(1, 2), replies(t, api.ErrShort, 0))
		is(t, y, send(0), outs())
	}
	w := begun(t, chapter)
	w.Now = 2
	has(t, y, w)
	is(t, y, send(1), outs(to(1, 5)))
	is(t, y, asks(t, insertFive()), outs())
	has(t, y, begun(t, chapter))
	is(t, y, send(9), outs())
	// No failure is set any more, and what was laid of the request is cut off.
	does(t, y, insertFive())
	is(t, y, asks(t, write()), replies(t, api.ErrFull, 0))
}

// TestPowerSetAnew: of two failures that are set the later one counts.
func TestPowerSetAnew(t *testing.T) { // P21.2
	n := recorded(t, insertFive())
	for _, c := range []struct {
		set   []int
		whole bool
	}{
		{[]int{0, n}, true}, {[]int{n, 0}, false}, {[]int{math.MaxInt, n - 1}, false}, {[]int{3, 4, n - 1, math.MaxInt}, true}, {[]int{n, n, n}, true},
	} {
		y := with(t, install(chapter))
		for _, n := range c.set {
			is(t, y, crash(n), outs())
		}
		is(t, y, event(api.EvCrash, -1), refused(api.ErrArg))
		is(t, y, asks(t, insertFive()), outs())
		want := api.OK
		if c.whole {
			want = api.ErrThere
		}
		is(t, y, asks(t, insertFive()), replies(t, want, 0))
		does(t, y, write())
	}
}

// TestPowerAgain: the power fails again and again, in what is written behind a failure too.
func TestPowerAgain(t *testing.T) { // P21.5, P0.4
	y := with(t, install(busy))
	want := begun(t, busy)
	for n := range 300 {
		r := write(group(n%16, n, n), group((n+5)%16))
		lays := n % (recorded(t, r) + 2)
		if n%4 != 0 {
			is(t, y, crash(lays), outs())
		}
		is(t, y, tick(1), outs())
		is(t, y, packet(n), outs())
		if n%4 == 0 {
			does(t, y, r)
		} else {
			is(t, y, asks(t, r), outs())
		}
		if n%4 == 0 || lays >= recorded(t, r) {
			want.Groups[n%16].Ports, want.Groups[(n+5)%16].Ports = []int{n, n}, nil
		}
		if n%4 != 0 {
			has(t, y, want)
		}
		if got := y.World().Groups; !same(got, want.Groups) {
			t.Fatalf("%d: %s, want %s", n, told(got), told(want.Groups))
		}
	}
}
