package yard_test

import (
	"bytes"
	"fmt"
	"slices"
	"strings"
	"testing"

	"pointsman/api"
	"pointsman/wire"
	"pointsman/yard"
)

// three has keys of all kinds, and arrays of all kinds.
const three = `header h { a 8; b 128; }
meta { m 5; }
register r 5 2; counter c 2; meter y 2 1 9;
action f() { drop; } action g(p 16) { meta.out = p; } action k(p 8, q 128) { h.a = p; h.b = q; }
table t { key { h.a exact; meta.port prefix; } actions f g k; default g(16w7); size 3; }
table u { key { h.b mask; meta.m range; } actions k g; default k(8w1, 128w2); size 2; }
table v { key { } actions f; default f(); size 1; }
parser { start { take h; go accept; } }
control { apply t; apply u; apply v; count c[1w1]; write r[1w0] = 5w3; }
deparser { h; }`

// switches are one with nothing installed, one with an empty program, and two with others.
func switches(t *testing.T) map[string]*yard.Yard {
	t.Helper()
	return map[string]*yard.Yard{"nothing": made(t, roomy()), "an empty one": with(t, install("")), "the chapter's": with(t, install(chapter), insertFive()), "three": with(t, install(three))}
}

// TestNoRequest: a frame that is no request, or behind which bytes are left.
func TestNoRequest(t *testing.T) { // P21.2
	whole := asks(t, install(chapter)).Data
	answer, _ := wire.EncodeReply(api.Reply{Error: api.ErrGone, At: 3})
	long := append([]byte{0, 1, 0, 1}, make([]byte, 65537)...)
	for name, y := range switches(t) {
		was := y.World()
		for _, c := range []struct {
			b    []byte
			want api.Errno
		}{
			{nil, api.ErrShort}, {[]byte{0, 0, 0}, api.ErrShort}, {whole[:len(whole)-1], api.ErrShort}, {[]byte{0, 1, 0, 0}, api.ErrShort},
			{long, api.ErrLimit}, {long[:4], api.ErrLimit}, {[]byte{255, 255, 255, 255, 3}, api.ErrLimit},
			{[]byte{0, 0, 0, 0}, api.ErrForm}, {[]byte{0, 0, 0, 1, 0}, api.ErrForm}, {[]byte{0, 0, 0, 1, 5}, api.ErrForm}, {[]byte{0, 0, 0, 1, 255, 7}, api.ErrForm}, {answer, api.ErrForm},
			// Bytes that are left, of requests that would be done.
			{append(slices.Clone(whole), 0), api.ErrForm}, {append(slices.Clone(whole), whole...), api.ErrForm}, {append(asks(t, read("t")).Data, 9), api.ErrForm},
			{append(asks(t, write()).Data, make([]byte, 100000)...), api.ErrForm}, {append(asks(t, cell("c", 0)).Data, 1), api.ErrForm},
			{append(asks(t, deleteFive()).Data, 1), api.ErrForm},
		} {
			what := fmt.Sprintf("%s: %.60x", name, c.b)
			if got := do(y, frame(c.b...)); !same(got, replies(t, c.want, 0)) {
				t.Errorf("%s: %+v, want %d", what, got, c.want)
			}
			has(t, y, was)
		}
	}
}

// TestInstall: of a text that is no program the reply has the line, and what is installed stays.
func TestInstall(t *testing.T) { // P21.2
	for name, y := range switches(t) {
		was := y.World()
		for _, c := range []struct {
			text string
			e    api.Errno
			line int
		}{
			{"(", api.ErrSyntax, 0}, {"\n\ncontrol {\ndrop }", api.ErrSyntax, 3}, {"\n$", api.ErrWord, 1}, {"counter c 1;\ncontrol { apply t; }", api.ErrName, 1},
			{"header h { a 7; }", api.ErrArg, 0}, {"control {\nmeta.out = 8w1; }", api.ErrWidth, 1}, {"\n" + chapter + "\n" + chapter, api.ErrName, 2},
			// Too many for a record on the disk.
			{chapter + strings.Repeat(" ", 65533-len(chapter)), api.ErrArg, 0}, {strings.Repeat("\n", 65535), api.ErrArg, 0},
		} {
			is(t, y, asks(t, install(c.text)), replies(t, c.e, c.line))
			has(t, y, was)
		}
		does(t, y, install(chapter+strings.Repeat(" ", 65532-len(chapter))))
		has(t, y, begun(t, chapter))
		if t.Failed() {
			t.Fatal(name)
		}
	}
}

// TestWrite: of updates that may not be the reply has the place, and none of them is done.
func TestWrite(t *testing.T) { // P21.2, P0.3
	y := made(t, roomy())
	for _, r := range []api.Request{write(), insertFive(), write(group(0, 1)), write(group(99))} {
		is(t, y, asks(t, r), replies(t, api.ErrGone, 0))
	}
	has(t, y, api.World{})
	y = with(t, install(chapter), insertFive())
	was := y.World()
	six := api.Update{Kind: api.UpInsert, Table: "t", Entry: api.Entry{Matches: []api.Match{{Value: number(8, 6)}}, Action: "f", Args: []api.Bits{number(16, 1)}}}
	for _, c := range []struct {
		l  []api.Update
		e  api.Errno
		at int
	}{
		{insertFive().Updates, api.ErrThere, 0}, {[]api.Update{group(1, 2), six}, api.ErrFull, 1}, {[]api.Update{group(1, 2), group(2, 3), group(16)}, api.ErrArg, 2},
		{[]api.Update{group(0, 65536)}, api.ErrArg, 0}, {append(deleteFive().Updates, deleteFive().Updates...), api.ErrGone, 1}, {[]api.Update{{Kind: api.UpDefault, Table: "u"}}, api.ErrName, 0},
		{[]api.Update{group(3), {Kind: api.UpDefault, Table: "t", Entry: api.Entry{Action: "f"}}}, api.ErrWidth, 1},
	} {
		is(t, y, asks(t, write(c.l...)), replies(t, c.e, c.at))
		has(t, y, was)
	}
	does(t, y, write(append(deleteFive().Updates, six, group(15, 65535, 0))...))
	was.Tables[0].Entries = []api.Entry{six.Entry}
	was.Groups[15].Ports = []int{65535, 0}
	has(t, y, was)
}

// TestReadNothing: with nothing installed there is nothing to be read; an empty program has no tables.
func TestReadNothing(t *testing.T) { // P21.2
	for _, r := range []api.Request{read("t"), read(""), cell("c", 0), cell("", 1<<31-1)} {
		is(t, made(t, roomy()), asks(t, r), replies(t, api.ErrGone, 0))
		is(t, with(t, install("")), asks(t, r), replies(t, api.ErrName, 0))
	}
}

// TestRead: the entries of a table, in order, and cells as passes leave them.
func TestRead(t *testing.T) { // P21.2
	y := with(t, install(three))
	ofT := func(lo uint64, action string, args ...api.Bits) api.Entry {
		return api.Entry{Matches: []api.Match{{Value: number(8, lo)}, {Value: number(16, 0x8000), Len: 1}}, Action: action, Args: args}
	}
	l := []api.Entry{ofT(3, "f"), ofT(1, "g", number(16, 2)), ofT(2, "k", number(8, 2), api.Bits{W: 128, Hi: 1, Lo: 2})}
	for _, e := range l {
		does(t, y, write(api.Update{Kind: api.UpInsert, Table: "t", Entry: e}))
	}
	reads := func(r api.Request, want api.Reply) {
		t.Helper()
		was := y.World()
		is(t, y, asks(t, r), outs(reply(t, want)))
		has(t, y, was)
	}
	reads(read("t"), api.Reply{Entries: l})
	reads(read("u"), api.Reply{})
	for _, name := range []string{"", "w", "T", "c", "h"} {
		reads(read(name), api.Reply{Error: api.ErrName})
	}
	for n := range 3 {
		reads(cell("c", 1), api.Reply{Value: number(64, uint64(n))})
		reads(cell("r", 0), api.Reply{Value: number(5, min(uint64(n), 1)*3)})
		is(t, y, packet(0, make([]byte, 17)...), outs(drop(api.EndDropped, 0)))
	}
	reads(cell("y", 1), api.Reply{Value: number(64, 9)})
	for _, n := range []int{2, 1<<31 - 1} {
		reads(cell("c", n), api.Reply{Error: api.ErrGone})
	}
	for _, name := range []string{"", "t", "x"} {
		reads(cell(name, 0), api.Reply{Error: api.ErrName})
	}
}

// broad is a program of which the entries of a table have many bytes, and entries of that table. Their reply has 7 bytes ahead of them, and one behind.
func broad(n int) (string, []api.Entry) {
	keys := strings.Repeat("h.b exact; ", api.MaxFields)
	text := "header h { b 128; } action a() { } action aa() { } action b(p 8, q 8) { } action c(p 128) { } table t { key { " + keys + "} actions a aa b c; default a(); size 4096; }"
	var l []api.Entry
	for i := range n {
		e := api.Entry{Action: "a"}
		for range api.MaxFields {
			e.Matches = append(e.Matches, api.Match{Value: api.Bits{W: 128, Lo: uint64(i)}})
		}
		l = append(l, e)
	}
	return text, l
}

// lengthen makes a reply with these entries so many bytes long.
func lengthen(t *testing.T, l []api.Entry, bytes int) {
	t.Helper()
	n := len(reply(t, api.Reply{Entries: l}).Data) - 4
	for i := range l {
		switch left := bytes - n; {
		case left >= 17:
			l[i].Action, l[i].Args, n = "c", []api.Bits{number(128, 0)}, n+17
		case left >= 4:
			l[i].Action, l[i].Args, n = "b", []api.Bits{number(8, 0), number(8, 0)}, n+4
		case left >= 1:
			l[i].Action, n = "aa", n+1
		}
	}
	if n != bytes {
		t.Fatalf("a reply of %d bytes, not of %d", n, bytes)
	}
}

// TestReplyTooLong: a reply of as many bytes as a frame may have is told; of one byte more ErrLimit is.
func TestReplyTooLong(t *testing.T) { // P21.2
	text, l := broad(46)
	lengthen(t, l, api.MaxFrame)
	y := with(t, install(text))
	insert := func(l []api.Entry) {
		for part := range slices.Chunk(l, 40) {
			var updates []api.Update
			for _, e := range part {
				updates = append(updates, api.Update{Kind: api.UpInsert, Table: "t", Entry: e})
			}
			does(t, y, write(updates...))
		}
	}
	insert(l)
	got := do(y, asks(t, read("t")))
	if !same(got, outs(reply(t, api.Reply{Entries: l}))) || len(got.Outs[0].Data) != api.MaxFrame+4 {
		t.Fatalf("the longest reply: %.500s", told(got))
	}
	longer := slices.IndexFunc(l, func(e api.Entry) bool { return e.Action == "a" })
	l[longer].Action = "aa"
	does(t, y, write(api.Update{Kind: api.UpModify, Table: "t", Entry: l[longer]}))
	was := y.World()
	for range 2 {
		is(t, y, asks(t, read("t")), replies(t, api.ErrLimit, 0))
		has(t, y, was)
	}
	_, more := broad(100)
	insert(more[46:])
	is(t, y, asks(t, read("t")), replies(t, api.ErrLimit, 0))
	does(t, y, write(api.Update{Kind: api.UpDelete, Table: "t", Entry: api.Entry{Matches: l[0].Matches}}))
	is(t, y, asks(t, read("t")), replies(t, api.ErrLimit, 0))
	is(t, y, asks(t, read("x")), replies(t, api.ErrName, 0))
}

// TestInstallAnew: another program has its new world, but for Now; what waits goes on waiting, and no pass of the one ahead of it is kept.
func TestInstallAnew(t *testing.T) { // P21.2
	texts := []string{chapter, "control { meta.out = 16w3; }", strings.ReplaceAll(chapter, "16w1", "16w2"), "", "control { drop; }", chapter, chapter, three}
	y := made(t, roomy())
	var want []api.Out
	for n, text := range texts {
		is(t, y, tick(1), outs())
		does(t, y, install(text))
		w := begun(t, text)
		w.Now = n + 1
		has(t, y, w)
		for range 3 {
			got := do(y, packet(4, 8, 8))
			switch n {
			case 0, 5, 6:
				want = append(want, to(1, 8, 8))
			case 1:
				want = append(want, to(3, 8, 8))
			case 2:
				want = append(want, to(2, 8, 8))
			case 3:
				want = append(want, to(0, 8, 8))
			}
			if dropped := text == "control { drop; }" || text == three; dropped != (len(got.Outs) == 1) || got.E != api.OK {
				t.Errorf("%q: %+v", text, got)
			}
		}
	}
	is(t, y, send(64), outs(want...))
	// A program that is refused leaves all as it was.
	y = with(t, install(chapter), insertFive())
	is(t, y, packet(0, 5), outs())
	is(t, y, asks(t, install("(")), replies(t, api.ErrSyntax, 0))
	is(t, y, packet(0, 5), outs())
	is(t, y, send(9), outs(to(9, 5), to(9, 5)))
}

// TestReplyBytes: as the chapter of the wire says them.
func TestReplyBytes(t *testing.T) { // P21.2
	y := with(t, install(chapter))
	for _, c := range []struct {
		r    api.Request
		want []byte
	}{
		{write(), []byte{0, 0, 0, 8, 0, 0, 0, 0, 0, 0, 0, 0}}, {install("\n\n\n("), []byte{0, 0, 0, 8, 5, 0, 0, 0, 3, 0, 0, 0}}, {cell("x", 0), []byte{0, 0, 0, 8, 6, 0, 0, 0, 0, 0, 0, 0}},
	} {
		if got := do(y, asks(t, c.r)); len(got.Outs) != 1 || !bytes.Equal(got.Outs[0].Data, c.want) {
			t.Errorf("%+v: %+v", c.r, got)
		}
	}
}
