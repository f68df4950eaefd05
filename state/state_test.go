package state_test

import (
	"bytes"
	"testing"

	"pointsman/api"
	"pointsman/disk"
	"pointsman/journal"
	"pointsman/lower"
	"pointsman/source"
	"pointsman/state"
	"pointsman/wire"
)

// chapter is the program of the chapter's examples.
const chapter = "header h { a 8; } parser { start { take h; go accept; } } action f(p 16) { meta.out = p; } table t { key { h.a exact; } actions f; default f(16w1); size 1; } control { apply t; } deparser { h; }"

// three has keys of all kinds, and arrays of all kinds.
const three = `header h { a 8; b 128; }
meta { m 5; }
register r 5 2; counter c 2; meter y 2 1 9;
action f() { drop; } action g(p 16) { meta.out = p; } action k(p 8, q 128) { h.a = p; h.b = q; } action l(p 16) { }
table t { key { h.a exact; meta.port prefix; } actions f g k l; default g(16w7); size 3; }
table u { key { h.b mask; meta.m range; } actions k g; default k(8w1, 128w2); size 2; }
table v { key { } actions f; default f(); size 1; }
parser { start { take h; go accept; } }
control { apply t; apply u; apply v; count c[1w1]; write r[1w0] = 5w3; }
deparser { h; }`

func number(w int, lo uint64) api.Bits { return api.Bits{W: w, Lo: lo} }

func plugged(t testing.TB, room int) *disk.Disk {
	t.Helper()
	d, e := disk.New(room)
	if e != api.OK {
		t.Fatalf("disk.New(%d): %d", room, e)
	}
	return d
}

func opened(t testing.TB, d *disk.Disk) *state.State {
	t.Helper()
	s, e := state.Open(d)
	if s == nil || e != api.OK {
		t.Fatalf("Open: %v, %d", s, e)
	}
	return s
}

// laid is a disk that keeps these bytes, with room for more.
func laid(t testing.TB, b []byte) *disk.Disk {
	t.Helper()
	d := plugged(t, len(b)+100000)
	if e := d.Append(b); e != api.OK {
		t.Fatalf("Append: %d", e)
	}
	return d
}

// done is all that a call of Do answers.
type done struct {
	Reply api.Reply
	E     api.Errno
}

func do(s *state.State, r api.Request) done {
	reply, e := s.Do(r)
	return done{reply, e}
}

// refused is the answer to a request that is refused.
func refused(at int, e api.Errno) done { return done{Reply: api.Reply{Error: e, At: at}} }

// does asks for a request that is done.
func does(t testing.TB, s *state.State, r api.Request) {
	t.Helper()
	if got := do(s, r); !same(got, done{}) {
		t.Fatalf("Do(%.500s) = %+v", told(r), got)
	}
}

// looks is all that a state tells.
type looks struct {
	P api.Program
	C api.Code
	W api.World
}

func look(s *state.State) looks {
	p, c := s.Program()
	return looks{p, c, s.World()}
}

// begun is what a state tells when a text is installed, and nothing else was done.
func begun(t testing.TB, text string) looks {
	t.Helper()
	p, c, line, e := lower.Of(text)
	if e != api.OK {
		t.Fatalf("lower.Of(%.500q): %d, %d", text, line, e)
	}
	w, e := source.New(p)
	if e != api.OK {
		t.Fatalf("source.New(%.500q): %d", text, e)
	}
	return looks{p, c, w}
}

func install(text string) api.Request { return api.Request{Kind: api.RqInstall, Source: text} }

func write(l ...api.Update) api.Request { return api.Request{Kind: api.RqWrite, Updates: l} }

// record is the frame of a record.
func record(t testing.TB, b []byte) []byte {
	t.Helper()
	f, e := journal.Frame(b)
	if e != api.OK {
		t.Fatalf("journal.Frame of %d bytes: %d", len(b), e)
	}
	return f
}

// recorded is what a disk keeps of requests.
func recorded(t testing.TB, l ...api.Request) []byte {
	t.Helper()
	var all []byte
	for _, r := range l {
		b, e := wire.EncodeRequest(r)
		if e != api.OK {
			t.Fatalf("wire.EncodeRequest(%.500s): %d", told(r), e)
		}
		all = append(all, record(t, b)...)
	}
	return all
}

// stays asks that a call leaves a state, and what its disk keeps, as they were.
func stays(t testing.TB, what string, s *state.State, d *disk.Disk, call func()) {
	t.Helper()
	was, kept, down := look(s), d.Bytes(), d.Down()
	call()
	if now := look(s); !same(now, was) {
		t.Fatalf("%s: changes the state: %.3000s, want %.3000s", what, told(now), told(was))
	}
	if !bytes.Equal(d.Bytes(), kept) || d.Down() != down {
		t.Fatalf("%s: changes the disk: %d bytes, want %d", what, len(d.Bytes()), len(kept))
	}
}

// five is the entry of the chapter's examples.
func five() api.Entry {
	return api.Entry{Matches: []api.Match{{Value: number(8, 5)}}, Action: "f", Args: []api.Bits{number(16, 9)}}
}

func insertFive() api.Request {
	return write(api.Update{Kind: api.UpInsert, Table: "t", Entry: five()})
}

func deleteFive() api.Request {
	return write(api.Update{Kind: api.UpDelete, Table: "t", Entry: api.Entry{Matches: five().Matches}})
}

func TestExamples(t *testing.T) { // P20.1, P20.2, P20.4
	d := plugged(t, 100000)
	s := opened(t, d)
	if got := do(s, write()); !same(got, refused(0, api.ErrGone)) {
		t.Errorf("write nothing: %+v", got)
	}
	does(t, s, install(chapter))
	does(t, s, insertFive())
	if got := do(s, insertFive()); !same(got, refused(0, api.ErrThere)) {
		t.Errorf("the same: %+v", got)
	}
	want := begun(t, chapter)
	want.W.Tables[0].Entries = []api.Entry{five()}
	is := func(what string, want looks) {
		t.Helper()
		s = opened(t, d)
		if got := look(s); !same(got, want) {
			t.Errorf("%s: %+v, want %+v", what, got, want)
		}
	}
	is("opened anew", want)
	cut := func(n int) {
		t.Helper()
		if e := d.Fail(n); e != api.OK {
			t.Fatalf("Fail(%d): %d", n, e)
		}
		if got := do(s, deleteFive()); !same(got, done{E: api.ErrCut}) {
			t.Errorf("cut behind %d: %+v", n, got)
		}
		d.Up()
	}
	cut(3)
	is("behind a part", want)
	cut(1000)
	is("behind the whole", begun(t, chapter))
}

// TestNotThere: nil, and what Open did not make, are no states. What comes first of all is ErrNil.
func TestNotThere(t *testing.T) { // P20.2, P20.3, R3
	zero := state.State{}
	w := begun(t, chapter).W
	for name, s := range map[string]*state.State{"nil": nil, "zero": &zero} {
		for _, r := range []api.Request{{}, install(chapter), install("("), write(), {Kind: api.RqRead, Table: "t"}, {Kind: 255, N: -1}} {
			if got := do(s, r); !same(got, done{E: api.ErrNil}) {
				t.Errorf("%s: Do(%+v) = %+v", name, r, got)
			}
		}
		for _, w := range []api.World{{}, w} {
			if e := s.Set(w); e != api.ErrNil {
				t.Errorf("%s: Set: %d", name, e)
			}
		}
		for _, n := range []int{-1, 0, 1} {
			if e := s.Tick(n); e != api.ErrNil {
				t.Errorf("%s: Tick(%d): %d", name, n, e)
			}
		}
		if got := look(s); !same(got, looks{}) {
			t.Errorf("%s: %+v", name, got)
		}
	}
}
