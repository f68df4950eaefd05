package yard_test

import (
	"fmt"
	"slices"
	"strings"
	"testing"

	"pointsman/api"
	"pointsman/yard"
)

// TestNothingInstalled: whatever comes in is dropped at its port; also once a program was cut.
func TestNothingInstalled(t *testing.T) { // P21.2
	y := made(t, roomy())
	for range 2 {
		for _, port := range []int{0, 1, 65535} {
			for _, n := range []int{0, 1, api.MaxPacket} {
				is(t, y, packet(port, make([]byte, n)...), outs(drop(api.EndDropped, port)))
			}
		}
		is(t, y, send(9), outs())
		is(t, y, crash(20), outs())
		is(t, y, asks(t, install(chapter)), outs())
	}
	is(t, y, asks(t, install("(")), replies(t, api.ErrSyntax, 0))
	is(t, y, packet(3, 5), outs(drop(api.EndDropped, 3)))
	// A program without any declarations is one.
	does(t, y, install(""))
	is(t, y, packet(3, 5), outs())
	is(t, y, packet(3), outs())
	is(t, y, send(9), outs(to(0, 5), to(0)))
}

// TestEnds: what does not go out is dropped at the port at which it came in.
func TestEnds(t *testing.T) { // P21.2
	const ways = `header h { a 8; } parser {
start { take h; select h.a { 8w1: reject; 8w2: start; 8w3: more; else accept; } }
more { take h; go accept; } }
control { if h.a == 8w4 { drop; } meta.out = 16w7; } deparser { h; }`
	y := with(t, install(ways))
	for _, c := range []struct {
		b    []byte
		want []api.Out
	}{
		{nil, []api.Out{drop(api.EndShort, 9)}}, {[]byte{3}, []api.Out{drop(api.EndShort, 9)}}, {[]byte{1, 8}, []api.Out{drop(api.EndReject, 9)}},
		{slices.Repeat([]byte{2}, 255), []api.Out{drop(api.EndShort, 9)}}, {slices.Repeat([]byte{2}, 256), []api.Out{drop(api.EndSteps, 9)}},
		{[]byte{4, 1}, []api.Out{drop(api.EndDropped, 9)}}, {[]byte{3, 4}, []api.Out{drop(api.EndDropped, 9)}}, {[]byte{3, 5, 6}, nil}, {[]byte{0}, nil},
	} {
		for range 3 {
			if got := do(y, packet(9, c.b...)); !same(got, outs(c.want...)) {
				t.Errorf("%.30x: %+v, want %+v", c.b, got, c.want)
			}
		}
	}
	is(t, y, send(9), outs(to(7, 5, 6), to(7, 5, 6), to(7, 5, 6), to(7, 0), to(7, 0), to(7, 0)))
	// One that would be too long when it is put together.
	does(t, y, install("header h { a 8; } control { make h; } deparser { h; }"))
	is(t, y, packet(2, make([]byte, api.MaxPacket)...), outs(drop(api.EndDropped, 2)))
	is(t, y, packet(2, make([]byte, api.MaxPacket-1)...), outs())
	is(t, y, send(2), outs(to(0, make([]byte, api.MaxPacket)...)))
}

// TestOutOrder: of a pass digests come first, then the copies for which there is no room, then its end.
func TestOutOrder(t *testing.T) { // P21.2
	const text = "header h { a 8; } parser { start { take h; go accept; } } control { clone 1; digest h.a, 3w5; clone 0; digest meta.port; meta.out = 16w8; if h.a == 8w1 { drop; } digest h.a; } deparser { h; }"
	for room := range 8 {
		y := made(t, yard.Config{Queue: room, Disk: 100000})
		does(t, y, install(text), write(group(0, 20, 65535), group(1, 10, 0)))
		for _, end := range []struct {
			a      byte
			copies []int
			drops  []api.Out
		}{
			{1, []int{10, 0, 20, 65535}, []api.Out{drop(api.EndDropped, 3)}}, {2, []int{10, 0, 20, 65535, 8}, nil},
		} {
			want := []api.Out{digest(number(8, uint64(end.a)), number(3, 5)), digest(number(16, 3)), digest(number(8, uint64(end.a)))}
			var sent []api.Out
			for n, port := range end.copies {
				if n < room {
					sent = append(sent, to(port, end.a, 6))
				} else {
					want = append(want, drop(api.EndFull, port))
				}
			}
			is(t, y, packet(3, end.a, 6), outs(append(want, end.drops...)...))
			is(t, y, send(api.MaxQueue), outs(sent...))
		}
	}
}

// TestAgain: with Again the same packet comes in anew from the same port, whatever the pass did with it.
func TestAgain(t *testing.T) { // P21.2
	const text = "header h { a 8; } register r 8 1; meta { m 8; } parser { start { take h; go accept; } } control { read meta.m = r[1w0]; write r[1w0] = meta.m + 8w1; digest meta.m, h.a, meta.port; if meta.m < 8wN { again; round; } h.a = 8w99; meta.out = 16w77; } deparser { h; }"
	for n := range 20 {
		y := with(t, install(strings.ReplaceAll(text, "8wN", fmt.Sprintf("8w%x", n))))
		want, sent := passesOf(n, func(k int) api.Out { return digest(number(8, uint64(k)), number(8, 4), number(16, 6)) }, func(int) int { return 6 }, to(0x77, 0x99, 2))
		is(t, y, packet(6, 4, 2), want)
		is(t, y, send(9), sent)
		// What the passes left is in the world.
		is(t, y, asks(t, cell("r", 0)), outs(reply(t, api.Reply{Value: number(8, uint64(min(n+1, 16)))})))
	}
}

// TestRound: with Round it comes in as the pass left it, from the port that the pass gave it.
func TestRound(t *testing.T) { // P21.2
	const text = "header h { a 8; } parser { start { take h; go accept; } } control { digest h.a, meta.port; if h.a < 8wN { round; } h.a = h.a + 8w1; meta.out = meta.port + 16w2; if h.a == 8w40 { drop; } } deparser { h; }"
	for n := range 20 {
		y := with(t, install(strings.ReplaceAll(text, "8wN", fmt.Sprintf("8w%x", n))))
		port := func(k int) int { return (65530 + 2*k) % 65536 }
		want, sent := passesOf(n, func(k int) api.Out { return digest(number(8, uint64(k)), number(16, uint64(port(k)))) }, port, to(port(n+1), byte(n+1), 2))
		is(t, y, packet(65530, 0, 2), want)
		is(t, y, send(9), sent)
		// One that is dropped begins no other pass.
		is(t, y, packet(5, 0x3f), outs(digest(number(8, 0x3f), number(16, 5)), drop(api.EndDropped, 5)))
	}
}

// passesOf is what comes out of a packet of which so many passes begin another one, and of that what goes out then. Each pass tells a digest.
func passesOf(n int, tells func(k int) api.Out, port func(k int) int, out api.Out) (done, done) {
	var l []api.Out
	for k := range min(n+1, api.MaxPasses) {
		l = append(l, tells(k))
	}
	if n >= api.MaxPasses {
		return outs(append(l, drop(api.EndPasses, port(api.MaxPasses-1)))...), outs()
	}
	return outs(l...), outs(out)
}

// TestLastPass: a packet may have MaxPasses passes, of which the last is none that begins another one; copies go of each of them.
func TestLastPass(t *testing.T) { // P21.2, P0.6
	const text = "header h { a 8; } parser { start { take h; go accept; } } control { clone 2; h.a = h.a - 8w1; meta.out = meta.port + 16w1; if ~(h.a == 8w0) { round; } if h.a == 8w80 { again; drop; } } deparser { h; }"
	for n := 1; n < 20; n++ {
		y := with(t, install(text), write(group(2, 50)))
		var sent, drops []api.Out
		for k := range min(n, api.MaxPasses) {
			sent = append(sent, to(50, byte(n-k-1), 7))
		}
		if n <= api.MaxPasses {
			sent = append(sent, to(n, 0, 7))
		} else {
			drops = []api.Out{drop(api.EndPasses, 15)}
		}
		is(t, y, packet(0, byte(n), 7), outs(drops...))
		is(t, y, send(64), outs(sent...))
		is(t, y, packet(1, 0x81), outs(drop(api.EndDropped, 1)))
	}
}

// TestLaterEnds: a pass that a packet came to by Round ends as any other, at the port from which it came in to it.
func TestLaterEnds(t *testing.T) { // P21.2
	const text = "header h { a 8; } parser { start { take h; select h.a { 8w1: reject; 8w2: start; 8w3: more; else accept; } } more { take h; go accept; } } control { round; meta.out = 16w20; if h.a == 8w4 { drop; } h.a = h.a + 8w1; gone h; } deparser { h; }"
	y := with(t, install(text))
	for _, c := range []struct {
		b    []byte
		want api.Out
	}{
		{[]byte{0, 1}, drop(api.EndReject, 0x20)}, {[]byte{0, 0}, drop(api.EndShort, 0x20)}, {[]byte{9, 4, 5}, drop(api.EndDropped, 0x20)}, {[]byte{4, 5}, drop(api.EndDropped, 11)}, {[]byte{0, 3}, drop(api.EndShort, 0x20)},
		{append([]byte{0}, slices.Repeat([]byte{2}, 257)...), drop(api.EndSteps, 0x20)}, {make([]byte, 16), drop(api.EndPasses, 0x20)}, {make([]byte, 15), drop(api.EndShort, 0x20)}, {make([]byte, 17), drop(api.EndPasses, 0x20)},
	} {
		for range 3 {
			if got := do(y, packet(11, c.b...)); !same(got, outs(c.want)) {
				t.Errorf("%.40x: %+v, want %+v", c.b, got, c.want)
			}
		}
	}
	is(t, y, send(9), outs())
}

// TestEndFullOfEachPass: passes fill what room there is; what finds none is dropped, and the passes go on.
func TestEndFullOfEachPass(t *testing.T) { // P21.2, P0.6
	c := roomy()
	c.Queue = 20
	y := made(t, c)
	ports := make([]int, api.MaxGroup)
	for n := range ports {
		ports[n] = 100 + n
	}
	does(t, y, install("control { again; clone 15; }"), write(group(15, ports...)))
	var want, sent []api.Out
	for n := range api.MaxPasses * api.MaxGroup {
		if port := ports[n%16]; n < 20 {
			sent = append(sent, to(port, 1, 2, 3))
		} else {
			want = append(want, drop(api.EndFull, port))
		}
	}
	is(t, y, packet(5, 1, 2, 3), outs(append(want, drop(api.EndPasses, 5))...))
	is(t, y, send(64), outs(sent...))
}

// TestWorldBehindPasses: cells, meters and random numbers go on from pass to pass and from packet to packet, whatever is kept.
func TestWorldBehindPasses(t *testing.T) { // P21.2, P21.3
	const text = "counter c 2; meter y 1 1 2; register r 16 1; meta { f 1; m 16; } control { count c[1w1]; meter meta.f = y[1w0]; random meta.m; write r[1w0] = meta.m; digest meta.f, meta.m; if meta.f { again; } }"
	for _, cache := range []int{0, 1, api.MaxCache} {
		c := roomy()
		c.Cache = cache
		y := made(t, c)
		does(t, y, install(text))
		m := modelOf(c)
		m.do(asks(t, install(text)))
		for n := range 40 {
			e := packet(n%3, byte(n))
			if n%5 == 4 {
				e = tick(n % 4)
			}
			got := do(y, e)
			l, err := m.do(e)
			if !same(got, done{l, err}) {
				t.Fatalf("%d: %+v, want %+v, %d", n, got, l, err)
			}
			has(t, y, m.w)
		}
		w := y.World()
		if counted := w.Arrays[0].Cells[1].Lo; counted < 40 || w.Random == 1 || w.Now == 0 {
			t.Errorf("passes left %+v", w)
		}
	}
}
