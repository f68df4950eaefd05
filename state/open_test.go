package state_test

import (
	"bytes"
	"fmt"
	"math"
	"slices"
	"testing"

	"pointsman/api"
	"pointsman/disk"
	"pointsman/state"
	"pointsman/wire"
)

// notOpened asks that Open refuses a disk, and that the disk keeps just that behind it.
func notOpened(t *testing.T, what string, d *disk.Disk, want api.Errno, keeps []byte) {
	t.Helper()
	if s, e := state.Open(d); s != nil || e != want {
		t.Errorf("%s: Open = %v, %d, want %d", what, s, e, want)
	}
	if !bytes.Equal(d.Bytes(), keeps) {
		t.Errorf("%s: the disk keeps %d bytes, want %d", what, len(d.Bytes()), len(keeps))
	}
}

// TestOpenNoDisk: nil, and what disk.New did not make.
func TestOpenNoDisk(t *testing.T) { // P20.1, R3
	notOpened(t, "nil", nil, api.ErrNil, nil)
	notOpened(t, "zero", &disk.Disk{}, api.ErrNil, nil)
}

// TestOpenDown: whatever is on a disk that is down, Open says so, and cuts nothing.
func TestOpenDown(t *testing.T) { // P20.1
	good := recorded(t, install(chapter), insertFive())
	for name, b := range map[string][]byte{"nothing": nil, "good": good, "cut": append(slices.Clone(good), 1, 0), "no request": record(t, []byte{9})} {
		d := laid(t, b)
		d.Fail(2)
		d.Append([]byte{7, 7, 7})
		notOpened(t, name, d, api.ErrCut, append(slices.Clone(b), 7, 7))
		d.Up()
		if name == "no request" {
			notOpened(t, name, d, api.ErrForm, b)
			continue
		}
		opened(t, d)
	}
}

// TestOpenNoRecords: what is no record is cut off, and nothing is installed.
func TestOpenNoRecords(t *testing.T) { // P20.1
	whole := recorded(t, install(chapter))
	turned := slices.Clone(whole)
	turned[len(turned)-1] ^= 1
	for name, b := range map[string][]byte{
		"nothing": nil, "a byte": {1}, "zeros": make([]byte, 100), "a head": {1, 0, 0, 0, 1, 2, 3, 4, 9}, "a part": whole[:len(whole)-1], "another byte": turned, "a text": []byte(chapter),
	} {
		d := laid(t, b)
		if got := look(opened(t, d)); !same(got, looks{}) {
			t.Errorf("%s: %+v", name, got)
		}
		if len(d.Bytes()) > 0 {
			t.Errorf("%s: the disk keeps %x", name, d.Bytes())
		}
	}
}

// TestOpenBehind: what stands behind the records is cut off; the records stay.
func TestOpenBehind(t *testing.T) { // P20.1
	good := recorded(t, install(chapter), insertFive())
	more := recorded(t, deleteFive())
	want := begun(t, chapter)
	want.W.Tables[0].Entries = []api.Entry{five()}
	for n := range more {
		d := laid(t, append(slices.Clone(good), more[:n]...))
		s := opened(t, d)
		if got := look(s); !same(got, want) || !bytes.Equal(d.Bytes(), good) {
			t.Errorf("behind %d bytes: %+v, %d bytes", n, got, len(d.Bytes()))
		}
		// It goes on from there.
		does(t, s, deleteFive())
		if got := look(opened(t, d)); !same(got, begun(t, chapter)) {
			t.Errorf("behind %d bytes, and a delete: %+v", n, got)
		}
	}
}

// noRequests are records that are no requests that write.
func noRequests(t *testing.T) map[string][]byte {
	t.Helper()
	told := func(r api.Request) []byte {
		b, e := wire.EncodeRequest(r)
		if e != api.OK {
			t.Fatalf("%+v: %d", r, e)
		}
		return b
	}
	put := told(insertFive())
	reply, _ := wire.EncodeReply(api.Reply{Error: api.ErrGone, At: 3})
	return map[string][]byte{
		"a byte":           {0},
		"three bytes":      {0, 0, 0},
		"an empty body":    {0, 0, 0, 0},
		"no kind":          {0, 0, 0, 1, 0},
		"kind 5":           {0, 0, 0, 1, 5},
		"kind 255":         {0, 0, 0, 1, 255},
		"a byte less":      put[:len(put)-1],
		"a byte more":      append(slices.Clone(put), 0),
		"two":              append(slices.Clone(put), told(deleteFive())...),
		"one, within":      append([]byte{0, 0, 0, byte(len(put))}, put...),
		"a read":           told(api.Request{Kind: api.RqRead, Table: "t"}),
		"a cell":           told(api.Request{Kind: api.RqCells, Table: "t"}),
		"a reply":          reply,
		"a long one":       append([]byte{0, 1, 0, 1}, make([]byte, 65533)...),
		"zeros":            make([]byte, 65537),
		"65 updates":       append([]byte{0, 0, 1, 136, 2, 65}, slices.Repeat([]byte{5, 0, 0, 0, 1, 0}, 65)...),
		"an update less":   {0, 0, 0, 8, 2, 2, 5, 0, 0, 0, 0, 0},
		"an update more":   {0, 0, 0, 14, 2, 1, 5, 0, 0, 0, 0, 0, 5, 0, 0, 0, 0, 0},
		"an update's kind": {0, 0, 0, 8, 2, 1, 6, 0, 0, 0, 0, 0},
	}
}

// TestOpenNoRequest: a record that is no request that writes makes the whole disk one of no state, wherever it stands.
func TestOpenNoRequest(t *testing.T) { // P20.1
	good := recorded(t, install(chapter))
	for name, b := range noRequests(t) {
		one := record(t, b)
		for n, l := range [][]byte{one, slices.Concat(good, one), slices.Concat(one, good), slices.Concat(good, one, good), slices.Concat(good, one, one)} {
			what := fmt.Sprint(name, ", ", n)
			notOpened(t, what, laid(t, l), api.ErrForm, l)
			// The disk is cut nevertheless.
			notOpened(t, what+", cut", laid(t, slices.Concat(l, good[:20])), api.ErrForm, l)
		}
	}
}

// TestOpenRefused: so does a request that is refused.
func TestOpenRefused(t *testing.T) { // P20.1
	group := func(n int, ports ...int) api.Request {
		return write(api.Update{Kind: api.UpGroup, N: n, Ports: ports})
	}
	def := write(api.Update{Kind: api.UpDefault, Table: "u", Entry: api.Entry{Action: "f", Args: []api.Bits{number(16, 1)}}})
	for name, l := range map[string][]api.Request{
		"a write first":             {insertFive()},
		"an empty write first":      {write(), install(chapter)},
		"a group first":             {group(1, 2), install(chapter)},
		"no program":                {install("(")},
		"no words":                  {install("$")},
		"no names":                  {install("control { apply t; }")},
		"no program behind one":     {install(chapter), install("("), insertFive()},
		"twice":                     {install(chapter), insertFive(), insertFive()},
		"gone":                      {install(chapter), insertFive(), deleteFive(), deleteFive(), insertFive()},
		"behind an install":         {install(chapter), insertFive(), install(chapter), deleteFive()},
		"another program's":         {install(chapter), insertFive(), install(three), insertFive()},
		"a table that is not there": {install(chapter), def},
		"a group that is not there": {install(chapter), group(16)},
		"a port that is not there":  {install(chapter), group(15, 65536)},
		"the second of two":         {install(chapter), write(insertFive().Updates[0], insertFive().Updates[0])},
	} {
		b := recorded(t, l...)
		notOpened(t, name, laid(t, b), api.ErrForm, b)
		notOpened(t, name+", cut", laid(t, append(slices.Clone(b), 5, 0, 0, 0)), api.ErrForm, b)
	}
	for name, l := range map[string][]api.Request{
		"nothing":        nil,
		"an empty text":  {install(""), write(), group(15, 65535)},
		"64 updates":     {install(chapter), write(slices.Repeat(group(0).Updates, 64)...)},
		"empty writes":   {install(chapter), write(), write(), insertFive(), write()},
		"twice, between": {install(chapter), insertFive(), deleteFive(), insertFive()},
		"two programs":   {install(three), install(chapter), insertFive()},
		"the same twice": {install(chapter), insertFive(), install(chapter), insertFive()},
	} {
		if s, e := state.Open(laid(t, recorded(t, l...))); s == nil || e != api.OK {
			t.Errorf("%s: Open = %v, %d", name, s, e)
		}
	}
}

// TestOpenAsNew: Now, cells and what the next random number is made of are as new; program, rows and groups are not.
func TestOpenAsNew(t *testing.T) { // P20.1, P20.4
	d := plugged(t, 100000)
	s := opened(t, d)
	s.Tick(7)
	does(t, s, install(three))
	group := api.Update{Kind: api.UpGroup, N: 3, Ports: []int{30, 31, 30}}
	def := api.Update{Kind: api.UpDefault, Table: "t", Entry: api.Entry{Action: "f"}}
	wide := api.Entry{Matches: []api.Match{{Value: number(128, 4), Mask: number(128, 6)}, {Value: number(5, 1), Mask: number(5, 31)}}, Priority: math.MaxInt32, Action: "g", Args: []api.Bits{number(16, 2)}}
	does(t, s, write(group, def, api.Update{Kind: api.UpInsert, Table: "u", Entry: wide}))
	w := s.World()
	w.Random, w.Now = 99, 1234
	w.Arrays[0].Cells[1], w.Arrays[1].Cells[0], w.Arrays[2].Cells[0], w.Arrays[2].Last[0] = number(5, 31), number(64, math.MaxUint64), number(64, 3), 6
	if e := s.Set(w); e != api.OK {
		t.Fatalf("Set: %d", e)
	}
	s.Tick(5)
	want := begun(t, three)
	want.W.Groups[3].Ports = group.Ports
	want.W.Tables[0].Default, want.W.Tables[0].Args = "f", nil
	want.W.Tables[1].Entries = []api.Entry{wide}
	for n := range 3 {
		if got := look(opened(t, d)); !same(got, want) {
			t.Errorf("opened %d: %+v, want %+v", n, got, want)
		}
	}
	// The state that was opened first goes on as it was.
	want.W.Random, want.W.Now, want.W.Arrays = 99, 1239, w.Arrays
	if got := look(s); !same(got, want) {
		t.Errorf("%+v, want %+v", got, want)
	}
}

// TestOpenFailure: a failure that is set is still set behind Open, which writes nothing.
func TestOpenFailure(t *testing.T) { // P20.1
	good := recorded(t, install(chapter))
	d := laid(t, slices.Concat(good, good[:5]))
	d.Fail(2)
	s := opened(t, d)
	stays(t, "opened", s, d, func() { opened(t, d) })
	if got := do(s, insertFive()); !same(got, done{E: api.ErrCut}) {
		t.Errorf("Do: %+v", got)
	}
	if want := slices.Concat(good, recorded(t, insertFive())[:2]); !bytes.Equal(d.Bytes(), want) {
		t.Errorf("the disk keeps %x, want %x", d.Bytes(), want)
	}
}
