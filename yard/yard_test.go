package yard_test

import (
	"math"
	"testing"

	"pointsman/api"
	"pointsman/lower"
	"pointsman/source"
	"pointsman/wire"
	"pointsman/yard"
)

// chapter is the program of the chapter's examples.
const chapter = "header h { a 8; } parser { start { take h; go accept; } } action f(p 16) { meta.out = p; } table t { key { h.a exact; } actions f; default f(16w1); size 1; } control { apply t; } deparser { h; }"

func number(w int, lo uint64) api.Bits { return api.Bits{W: w, Lo: lo} }

// roomy is a switch's config with room for much.
func roomy() yard.Config { return yard.Config{Cache: 4, Queue: 64, Disk: 1 << 20} }

func made(t testing.TB, c yard.Config) *yard.Yard {
	t.Helper()
	y, e := yard.New(c)
	if y == nil || e != api.OK {
		t.Fatalf("New(%+v): %v, %d", c, y, e)
	}
	return y
}

// with is a roomy switch that has done these requests.
func with(t testing.TB, l ...api.Request) *yard.Yard {
	t.Helper()
	y := made(t, roomy())
	does(t, y, l...)
	return y
}

// done is all that a call of Do or of Run answers.
type done struct {
	Outs []api.Out
	E    api.Errno
}

func do(y *yard.Yard, e api.Event) done {
	l, err := y.Do(e)
	return done{l, err}
}

func run(c yard.Config, l ...api.Event) done {
	outs, e := yard.Run(c, l)
	return done{outs, e}
}

// outs is an answer of that.
func outs(l ...api.Out) done { return done{Outs: l} }

func refused(e api.Errno) done { return done{E: e} }

func event(kind api.EventKind, n int) api.Event { return api.Event{Kind: kind, N: n} }

func tick(n int) api.Event { return event(api.EvTick, n) }

func send(n int) api.Event { return event(api.EvSend, n) }

func crash(n int) api.Event { return event(api.EvCrash, n) }

func packet(port int, b ...byte) api.Event {
	return api.Event{Kind: api.EvPacket, Port: port, Data: b}
}

func frame(b ...byte) api.Event { return api.Event{Kind: api.EvFrame, Data: b} }

// asks is a frame of a request.
func asks(t testing.TB, r api.Request) api.Event {
	t.Helper()
	b, e := wire.EncodeRequest(r)
	if e != api.OK {
		t.Fatalf("wire.EncodeRequest(%.500s): %d", told(r), e)
	}
	return frame(b...)
}

// reply is what comes out with that reply.
func reply(t testing.TB, r api.Reply) api.Out {
	t.Helper()
	b, e := wire.EncodeReply(r)
	if e != api.OK {
		t.Fatalf("wire.EncodeReply(%.500s): %d", told(r), e)
	}
	return api.Out{Kind: api.OuReply, Data: b}
}

func replies(t testing.TB, e api.Errno, at int) done {
	t.Helper()
	return outs(reply(t, api.Reply{Error: e, At: at}))
}

func to(port int, b ...byte) api.Out { return api.Out{Kind: api.OuPacket, Port: port, Data: b} }

func drop(end api.EndKind, port int) api.Out {
	return api.Out{Kind: api.OuDrop, End: end, Port: port}
}

func digest(l ...api.Bits) api.Out { return api.Out{Kind: api.OuDigest, Values: l} }

// is asks that a switch answers just that.
func is(t testing.TB, y *yard.Yard, e api.Event, want done) {
	t.Helper()
	if got := do(y, e); !same(got, want) {
		t.Fatalf("Do(%.500s) = %.2000s, want %.2000s", told(e), told(got), told(want))
	}
}

// does has a switch do requests.
func does(t testing.TB, y *yard.Yard, l ...api.Request) {
	t.Helper()
	for _, r := range l {
		is(t, y, asks(t, r), replies(t, api.OK, 0))
	}
}

// has asks that a switch has that world.
func has(t testing.TB, y *yard.Yard, want api.World) {
	t.Helper()
	if got := y.World(); !same(got, want) {
		t.Fatalf("World: %.3000s, want %.3000s", told(got), told(want))
	}
}

// begun is the world of a program ahead of all.
func begun(t testing.TB, text string) api.World {
	t.Helper()
	p, _, line, e := lower.Of(text)
	if e != api.OK {
		t.Fatalf("lower.Of(%.500q): %d, %d", text, line, e)
	}
	w, e := source.New(p)
	if e != api.OK {
		t.Fatalf("source.New(%.500q): %d", text, e)
	}
	return w
}

func install(text string) api.Request { return api.Request{Kind: api.RqInstall, Source: text} }

func write(l ...api.Update) api.Request { return api.Request{Kind: api.RqWrite, Updates: l} }

func read(table string) api.Request { return api.Request{Kind: api.RqRead, Table: table} }

func cell(array string, n int) api.Request {
	return api.Request{Kind: api.RqCells, Table: array, N: n}
}

func group(n int, ports ...int) api.Update {
	return api.Update{Kind: api.UpGroup, N: n, Ports: ports}
}

// five is the entry of the chapter's examples.
func five() api.Entry {
	return api.Entry{Matches: []api.Match{{Value: number(8, 5)}}, Action: "f", Args: []api.Bits{number(16, 9)}}
}

func insertFive() api.Request {
	return write(api.Update{Kind: api.UpInsert, Table: "t", Entry: five()})
}

func deleteFive() api.Request {
	return write(api.Update{Kind: api.UpDelete, Table: "t", Entry: api.Entry{Matches: five().Matches}})
}

func TestExamples(t *testing.T) { // P21.2, P21.4
	c := yard.Config{Cache: 4, Queue: 4, Disk: 100000}
	rows := []struct {
		events []api.Event
		want   []api.Out
	}{
		{[]api.Event{packet(0, 5)}, []api.Out{drop(api.EndDropped, 0)}},
		{[]api.Event{asks(t, install(chapter)), asks(t, insertFive())}, []api.Out{reply(t, api.Reply{}), reply(t, api.Reply{})}},
		{[]api.Event{packet(0, 5, 7), send(5)}, []api.Out{to(9, 5, 7)}},
		{[]api.Event{crash(0), asks(t, deleteFive()), packet(0, 5), send(1)}, []api.Out{to(9, 5)}},
	}
	y := made(t, c)
	var all []api.Event
	var want []api.Out
	for n, row := range rows {
		var got []api.Out
		for _, e := range row.events {
			l, err := y.Do(e)
			if err != api.OK {
				t.Errorf("row %d: Do(%+v): %d", n, e, err)
			}
			got = append(got, l...)
		}
		if !same(got, row.want) {
			t.Errorf("row %d: %+v, want %+v", n, got, row.want)
		}
		all, want = append(all, row.events...), append(want, row.want...)
	}
	if got := run(c, all...); !same(got, outs(want...)) {
		t.Errorf("Run: %+v, want %+v", got, want)
	}
}

// TestNew: each room at its bounds, and one beyond them.
func TestNew(t *testing.T) { // P21.1, P21.4
	far := []int{math.MinInt, math.MinInt32, math.MaxInt32, math.MaxInt, 1 << 32}
	for _, c := range []struct {
		least, most int
		of          func(n int) yard.Config
	}{
		{0, api.MaxCache, func(n int) yard.Config { return yard.Config{Cache: n, Queue: 1, Disk: 1} }},
		{0, api.MaxQueue, func(n int) yard.Config { return yard.Config{Cache: 1, Queue: n, Disk: 1, Picks: []int{-1}} }},
		{1, api.MaxDisk, func(n int) yard.Config { return yard.Config{Disk: n, Picks: []int{math.MinInt, math.MaxInt}} }},
	} {
		for _, n := range append(far, c.least-1, c.least, c.least+1, c.most-1, c.most, c.most+1) {
			want := api.ErrArg
			if c.least <= n && n <= c.most {
				want = api.OK
			}
			y, e := yard.New(c.of(n))
			if e != want || (y == nil) != (e != api.OK) {
				t.Errorf("New(%+v) = %v, %d, want %d", c.of(n), y, e, want)
			}
			if got := run(c.of(n), packet(7)); want != api.OK && !same(got, refused(want)) || want == api.OK && !same(got, outs(drop(api.EndDropped, 7))) {
				t.Errorf("Run(%+v): %+v", c.of(n), got)
			}
			if want == api.OK {
				has(t, y, api.World{})
			}
		}
	}
}

// TestNewSeveral: of several rooms that may not be the error is the same.
func TestNewSeveral(t *testing.T) { // P21.1, P21.4
	for _, c := range []yard.Config{{}, {Cache: -1, Queue: -1, Disk: -1}, {Cache: 257, Queue: 65}, {Queue: 65, Disk: api.MaxDisk + 1, Picks: []int{1}}} {
		if y, e := yard.New(c); y != nil || e != api.ErrArg {
			t.Errorf("New(%+v) = %v, %d", c, y, e)
		}
		for _, l := range [][]api.Event{nil, {packet(0)}, {{}, packet(-1)}} {
			if got := run(c, l...); !same(got, refused(api.ErrArg)) {
				t.Errorf("Run(%+v, %+v) = %+v", c, l, got)
			}
		}
	}
}

// TestRooms: each thing has the room that the config says, also once the switch began anew.
func TestRooms(t *testing.T) { // P21.1, P21.2
	for _, room := range []int{0, 1, 2, api.MaxQueue} {
		c := roomy()
		c.Queue = room
		y := made(t, c)
		does(t, y, install("control { meta.out = 16w6; }"))
		for range 2 {
			for n := range room {
				is(t, y, packet(0, byte(n)), outs())
			}
			is(t, y, packet(1, 1), outs(drop(api.EndFull, 6)))
			is(t, y, crash(3), outs())
			is(t, y, asks(t, write()), outs())
		}
		is(t, y, send(api.MaxQueue+1), outs())
	}
	whole := len(asks(t, install(chapter)).Data) + 8
	for _, room := range []int{1, whole - 1, whole, whole + 17, whole + 18, whole + 36} {
		y := made(t, yard.Config{Disk: room})
		want := api.ErrFull
		if room >= whole {
			want = api.OK
		}
		is(t, y, asks(t, install(chapter)), replies(t, want, 0))
		// An empty write is six bytes, and eight of its record.
		for left := room - whole; left >= 0; left -= 14 {
			want := api.OK
			if left < 14 {
				want = api.ErrFull
			}
			is(t, y, asks(t, write()), replies(t, want, 0))
		}
	}
}

// TestNotThere: nil, and what New did not make, are no switches. What comes first of all is ErrNil.
func TestNotThere(t *testing.T) { // P21.2, P21.3, R3
	zero := yard.Yard{}
	for name, y := range map[string]*yard.Yard{"nil": nil, "zero": &zero} {
		for _, e := range []api.Event{{}, packet(0), packet(-1), packet(0, make([]byte, 2049)...), tick(1), tick(-1), send(1), crash(1), frame(), asks(t, install(chapter)), {Kind: 6}, {Kind: 255, Port: -1, N: -1, Data: []byte{1}}} {
			if got := do(y, e); !same(got, refused(api.ErrNil)) {
				t.Errorf("%s: Do(%.200s) = %+v", name, told(e), got)
			}
		}
		if w := y.World(); !same(w, api.World{}) {
			t.Errorf("%s: World: %+v", name, w)
		}
	}
}

// TestEvents: what an event's row does not name is zero; of what it names, what may be is done.
func TestEvents(t *testing.T) { // P21.2
	far := []int{-1, math.MinInt, math.MinInt32}
	ports := append(far, 65536, math.MaxInt, 1<<32)
	long := make([]byte, api.MaxPacket+1)
	refuses := []struct {
		e    api.Event
		want api.Errno
	}{
		{api.Event{}, api.ErrArg}, {api.Event{Port: 1}, api.ErrArg}, {api.Event{N: 1}, api.ErrArg}, {api.Event{Data: []byte{0}}, api.ErrArg},
		{packet(0, long...), api.ErrLimit}, {packet(65535, append(long, long...)...), api.ErrLimit},
		// Of two errors at once ErrArg comes first.
		{packet(-1, long...), api.ErrArg}, {packet(65536, long...), api.ErrArg}, {api.Event{Kind: api.EvPacket, N: 1, Data: long}, api.ErrArg}, {api.Event{Kind: api.EvPacket, N: 1, Port: -1}, api.ErrArg},
	}
	refuse := func(e api.Event) {
		refuses = append(refuses, struct {
			e    api.Event
			want api.Errno
		}{e, api.ErrArg})
	}
	for kind := 6; kind < 256; kind++ {
		refuse(api.Event{Kind: api.EventKind(kind)})
		refuse(api.Event{Kind: api.EventKind(kind), Port: 1, N: 1, Data: []byte{1}})
	}
	for _, n := range append(far, 1, 65535, math.MaxInt) {
		refuse(api.Event{Kind: api.EvFrame, Port: n})
		refuse(api.Event{Kind: api.EvFrame, Port: n, Data: asks(t, install(chapter)).Data})
		refuse(api.Event{Kind: api.EvFrame, N: n, Data: []byte{1}})
		refuse(api.Event{Kind: api.EvPacket, N: n, Data: []byte{1}})
	}
	for _, port := range ports {
		refuse(packet(port, 5))
	}
	for _, kind := range []api.EventKind{api.EvTick, api.EvSend, api.EvCrash} {
		for _, n := range far {
			refuse(event(kind, n))
		}
		for _, n := range []int{-1, 1, 65535} {
			refuse(api.Event{Kind: kind, Port: n})
			refuse(api.Event{Kind: kind, Port: n, N: 3})
		}
		refuse(api.Event{Kind: kind, Data: []byte{0}})
		refuse(api.Event{Kind: kind, N: 3, Data: []byte{1, 2}})
	}
	for _, text := range []string{"", chapter} {
		y := with(t, install(text))
		is(t, y, packet(0, 4, 4), outs())
		was := y.World()
		for _, c := range refuses {
			is(t, y, c.e, refused(c.want))
		}
		has(t, y, was)
		// Nothing waits but what did, and no failure is set.
		does(t, y, write())
		if got := do(y, send(9)); len(got.Outs) != 1 {
			t.Errorf("%q: %+v", text, got)
		}
	}
	y := made(t, roomy())
	for _, c := range refuses {
		is(t, y, c.e, refused(c.want))
	}
	has(t, y, api.World{})
}

// TestEventsThatMayBe: at the bounds of what a row names.
func TestEventsThatMayBe(t *testing.T) { // P21.2
	y := with(t, install(chapter))
	for _, e := range []api.Event{packet(0, 1), packet(65535, 1), packet(1, make([]byte, api.MaxPacket)...), tick(0), {Kind: api.EvTick, Data: []byte{}}} {
		is(t, y, e, outs())
	}
	is(t, y, packet(65535), outs(drop(api.EndShort, 65535)))
	is(t, y, send(0), outs())
	is(t, y, api.Event{Kind: api.EvSend, N: math.MaxInt, Data: []byte{}}, outs(to(1, 1), to(1, 1), to(1, make([]byte, api.MaxPacket)...)))
	is(t, y, frame(), replies(t, api.ErrShort, 0))
	is(t, y, crash(math.MaxInt), outs())
	is(t, y, asks(t, insertFive()), outs())
	is(t, y, packet(3, 5), outs())
	is(t, y, send(1), outs(to(9, 5)))
}

// TestTick: ticks go by with something installed or nothing, at most 2^31 - 1 of them; one that began anew has seen none.
func TestTick(t *testing.T) { // P21.2, P21.3
	y := made(t, roomy())
	is(t, y, tick(3), outs())
	has(t, y, api.World{Now: 3})
	does(t, y, install(chapter))
	w := begun(t, chapter)
	for _, c := range [][2]int{{0, 3}, {1, 4}, {math.MaxInt32 - 5, math.MaxInt32 - 1}, {1, math.MaxInt32}, {1, math.MaxInt32}, {math.MaxInt, math.MaxInt32}} {
		is(t, y, tick(c[0]), outs())
		w.Now = c[1]
		has(t, y, w)
	}
	is(t, y, crash(0), outs())
	is(t, y, asks(t, insertFive()), outs())
	has(t, y, begun(t, chapter))
	is(t, y, tick(math.MaxInt), outs())
	has(t, y, w)
}

// TestSend: what waits goes out in order, so many at most.
func TestSend(t *testing.T) { // P21.2
	y := with(t, install("control { meta.out = meta.port + 16w1; }"))
	for n := range 5 {
		is(t, y, packet(n, byte(n), 0), outs())
	}
	is(t, y, packet(5), outs())
	is(t, y, send(2), outs(to(1, 0, 0), to(2, 1, 0)))
	is(t, y, send(0), outs())
	is(t, y, packet(65535, 9), outs())
	is(t, y, send(1), outs(to(3, 2, 0)))
	is(t, y, send(9), outs(to(4, 3, 0), to(5, 4, 0), to(6), to(0, 9)))
	is(t, y, send(9), outs())
}

// TestRun: what comes out of events one behind the other; those that are refused are left out, and change nothing.
func TestRun(t *testing.T) { // P21.4
	c := roomy()
	good := []api.Event{packet(2, 1), asks(t, install(chapter)), asks(t, insertFive()), packet(0, 5, 7), packet(0, 6), tick(4), packet(1), send(1), crash(3), asks(t, deleteFive()), send(7), packet(9, 5), asks(t, read("t")), send(2)}
	want := outs(drop(api.EndDropped, 2), reply(t, api.Reply{}), reply(t, api.Reply{}), drop(api.EndShort, 1), to(9, 5, 7), reply(t, api.Reply{Entries: []api.Entry{five()}}), to(9, 5))
	if got := run(c, good...); !same(got, want) {
		t.Errorf("%+v, want %+v", got, want)
	}
	bad := []api.Event{{}, packet(-1, 5), packet(0, make([]byte, 2049)...), tick(-1), send(-1), crash(-1), {Kind: api.EvCrash, Port: 1}, {Kind: 6}, {Kind: api.EvFrame, N: 1, Data: good[1].Data}}
	var mixed []api.Event
	for n, e := range good {
		mixed = append(mixed, bad[n%len(bad)], e, bad[(n+4)%len(bad)])
	}
	if got := run(c, mixed...); !same(got, want) {
		t.Errorf("with others among them: %+v, want %+v", got, want)
	}
	for _, l := range [][]api.Event{nil, bad, {tick(1)}} {
		if got := run(c, l...); !same(got, outs()) {
			t.Errorf("Run(%+v) = %+v", l, got)
		}
	}
}
