package state_test

import (
	"bytes"
	"fmt"
	"math"
	"strings"
	"testing"

	"pointsman/api"
	"pointsman/disk"
	"pointsman/state"
	"pointsman/wire"
)

// padded is the text of a program, so many bytes long.
func padded(n int) string {
	const text = "register r 8 1;"
	return text + strings.Repeat("\n", n-len(text))
}

// broad is a program with a table of the widest entries that there are.
func broad() string {
	return "action f() { } table t { key { " + strings.Repeat("128w0 mask; ", 64) + "} actions f; default f(); size 64; }"
}

// sized is a batch for broad, whose body has so many bytes: inserts of 2443 each, and groups of 6 with 4 for each port.
func sized(t *testing.T, inserts, size int) api.Request {
	t.Helper()
	var l []api.Update
	for i := range inserts {
		e := api.Entry{Priority: i + 1, Action: "f", Matches: make([]api.Match, 64)}
		for n := range e.Matches {
			e.Matches[n] = api.Match{Value: number(128, 0), Mask: number(128, 0)}
		}
		l = append(l, api.Update{Kind: api.UpInsert, Table: "t", Entry: e})
	}
	left := size - 2 - inserts*2443
	for left > 0 {
		n := min(16, (left-6)/4)
		if rest := left - 6 - 4*n; rest > 0 && rest < 6 {
			n--
		}
		l = append(l, api.Update{Kind: api.UpGroup, N: 1, Ports: make([]int, n)})
		left -= 6 + 4*n
	}
	if len(l) > 64 || left != 0 {
		t.Fatalf("%d updates, %d bytes are left", len(l), left)
	}
	return write(l...)
}

// stateWith is a state on a disk of that room, with a program.
func stateWith(t *testing.T, room int, text string) (*state.State, *disk.Disk) {
	t.Helper()
	d := plugged(t, room)
	s := opened(t, d)
	if text != "" {
		does(t, s, install(text))
	}
	return s, d
}

// powers are what becomes of a disk ahead of a Do that may not write.
func powers() map[string]func(d *disk.Disk) {
	return map[string]func(d *disk.Disk){
		"on":        func(*disk.Disk) {},
		"fails":     func(d *disk.Disk) { d.Fail(3) },
		"down":      func(d *disk.Disk) { d.Fail(0); d.Append(nil) },
		"full":      func(d *disk.Disk) { filledUp(d) },
		"full, off": func(d *disk.Disk) { filledUp(d); d.Fail(0); d.Append(nil) },
	}
}

// filledUp: the disk has no room any more.
func filledUp(d *disk.Disk) {
	for n := api.MaxDisk; n > 0; n /= 2 {
		for d.Append(make([]byte, n)) == api.OK {
		}
	}
}

// refuses asks that a request is refused, whatever becomes of the disk, and that nothing is changed by it.
func refuses(t *testing.T, what string, text string, r api.Request, want done) {
	t.Helper()
	for name, power := range powers() {
		s, d := stateWith(t, 1000, text)
		power(d)
		stays(t, what+", "+name, s, d, func() {
			if got := do(s, r); !same(got, want) {
				t.Errorf("%s, %s: %+v, want %+v", what, name, got, want)
			}
		})
		if name == "fails" {
			if d.Append([]byte("abcd")) != api.ErrCut {
				t.Errorf("%s: the failure is set no more", what)
			}
		}
	}
}

// TestDoNoRequest: what Do is not for comes ahead of all that is wrong in it.
func TestDoNoRequest(t *testing.T) { // P20.2, R2
	updates := insertFive().Updates
	for name, r := range map[string]api.Request{
		"nothing":                   {},
		"a read":                    {Kind: api.RqRead, Table: "t"},
		"a cell":                    {Kind: api.RqCells, Table: "c", N: 1},
		"no kind, source":           {Source: chapter},
		"no kind, updates":          {Updates: updates},
		"kind 5":                    {Kind: 5, Source: chapter},
		"kind 255":                  {Kind: 255, Updates: updates},
		"install, table":            {Kind: api.RqInstall, Source: chapter, Table: "t"},
		"install, N":                {Kind: api.RqInstall, Source: chapter, N: 1},
		"install, N below 0":        {Kind: api.RqInstall, Source: chapter, N: -1},
		"install, N far below":      {Kind: api.RqInstall, Source: chapter, N: math.MinInt},
		"install, updates":          {Kind: api.RqInstall, Source: chapter, Updates: updates},
		"install, an empty update":  {Kind: api.RqInstall, Source: chapter, Updates: make([]api.Update, 1)},
		"wrong install, table":      {Kind: api.RqInstall, Source: "(", Table: "t"},
		"empty install, updates":    {Kind: api.RqInstall, Updates: updates},
		"long install, N":           {Kind: api.RqInstall, Source: padded(65536), N: 1},
		"write, source":             {Kind: api.RqWrite, Updates: updates, Source: "x"},
		"write, table":              {Kind: api.RqWrite, Updates: updates, Table: "t"},
		"write, N":                  {Kind: api.RqWrite, Updates: updates, N: 1},
		"write, N far above":        {Kind: api.RqWrite, Updates: updates, N: math.MaxInt},
		"empty write, source":       {Kind: api.RqWrite, Source: chapter},
		"wrong write, table":        {Kind: api.RqWrite, Updates: make([]api.Update, 1), Table: "t"},
		"write of too many, source": {Kind: api.RqWrite, Updates: make([]api.Update, 65), Source: "x"},
	} {
		for _, text := range []string{"", chapter} {
			refuses(t, name, text, r, done{E: api.ErrArg})
		}
	}
}

// TestDoEmptyLists: lists that are empty are none.
func TestDoEmptyLists(t *testing.T) { // P20.2, R4
	s, _ := stateWith(t, 10000, "")
	does(t, s, api.Request{Kind: api.RqInstall, Source: chapter, Updates: []api.Update{}})
	does(t, s, api.Request{Kind: api.RqWrite, Updates: []api.Update{}})
	does(t, s, api.Request{Kind: api.RqWrite})
	if got, want := look(s), begun(t, chapter); !same(got, want) {
		t.Errorf("%+v, want %+v", got, want)
	}
}

// TestDoNoProgram: a text that is no program is told with its line.
func TestDoNoProgram(t *testing.T) { // P20.2
	for _, c := range []struct {
		text string
		e    api.Errno
		line int
	}{
		{"\n\n$", api.ErrWord, 2}, {"\n(", api.ErrSyntax, 1}, {"(", api.ErrSyntax, 0}, {chapter + "\n\n\nheader", api.ErrSyntax, 3},
		{"header h{a 8;}\ncontrol{\nh.b=8w1;}", api.ErrName, 2}, {"\n\ncontrol{apply t;}", api.ErrName, 2},
		{"\ncontrol{\nmeta.out=8w1;}", api.ErrWidth, 2}, {"\nheader h{a 7;}", api.ErrArg, 1}, {"\nregister r 8 4097;", api.ErrArg, 1},
		{strings.Repeat("\n", 65537), api.ErrLimit, 0},
	} {
		for _, text := range []string{"", chapter} {
			refuses(t, fmt.Sprintf("%.40q", c.text), text, install(c.text), refused(c.line, c.e))
		}
	}
}

// TestDoGone: while nothing is installed no write may be, be it none at all.
func TestDoGone(t *testing.T) { // P20.2
	for name, r := range map[string]api.Request{
		"none": write(), "one": insertFive(), "a wrong one": write(api.Update{}), "too many": write(make([]api.Update, 65)...), "too wide": write(sized(t, 27, 2+27*2443).Updates...),
		"a group": write(api.Update{Kind: api.UpGroup, N: 3}),
	} {
		refuses(t, name, "", r, refused(0, api.ErrGone))
	}
}

// TestDoUpdates: an update that may not be is told with its place; none of its batch is done.
func TestDoUpdates(t *testing.T) { // P20.2, P0.3
	put, drop := insertFive().Updates[0], deleteFive().Updates[0]
	group := api.Update{Kind: api.UpGroup, N: 3, Ports: []int{1, 2}}
	changed := func(do func(u *api.Update)) api.Update {
		u := copied(put, 0)
		do(&u)
		return u
	}
	for name, c := range map[string]struct {
		l  []api.Update
		at int
		e  api.Errno
	}{
		"twice":       {[]api.Update{put, put}, 1, api.ErrThere},
		"without one": {[]api.Update{drop}, 0, api.ErrGone},
		"dropped":     {[]api.Update{group, put, drop, drop, put}, 3, api.ErrGone},
		"no room":     {[]api.Update{group, put, changed(func(u *api.Update) { u.Entry.Matches[0].Value.Lo = 6 })}, 2, api.ErrFull},
		"no table":    {[]api.Update{changed(func(u *api.Update) { u.Table = "u" })}, 0, api.ErrName},
		"no action":   {[]api.Update{group, changed(func(u *api.Update) { u.Entry.Action = "g" })}, 1, api.ErrName},
		"no arg":      {[]api.Update{group, group, changed(func(u *api.Update) { u.Entry.Args = nil })}, 2, api.ErrWidth},
		"a priority":  {[]api.Update{changed(func(u *api.Update) { u.Entry.Priority = 1 })}, 0, api.ErrArg},
		"no kind":     {[]api.Update{put, {}}, 1, api.ErrArg},
		"no group":    {[]api.Update{put, {Kind: api.UpGroup, N: 16}}, 1, api.ErrArg},
		"too many":    {append(make([]api.Update, 64), put), 0, api.ErrLimit},
		"the 64th":    {append(groups(63), drop), 63, api.ErrGone},
	} {
		refuses(t, name, chapter, write(c.l...), refused(c.at, c.e))
	}
}

// groups are so many updates that may be.
func groups(n int) []api.Update {
	l := make([]api.Update, n)
	for i := range l {
		l[i] = api.Update{Kind: api.UpGroup, N: i % 16, Ports: []int{i}}
	}
	return l
}

// TestDoTooLong: what has no frame, and what has one that is no record, is refused ahead of a disk that has no room or no power.
func TestDoTooLong(t *testing.T) { // P20.2
	for n, want := range map[int]api.Errno{65532: api.OK, 65533: api.ErrArg, 65535: api.ErrArg, 65536: api.ErrLimit} {
		tooLong(t, fmt.Sprint("a text of ", n), chapter, install(padded(n)), want)
	}
	refuses(t, "a text of 65537", chapter, install(padded(65537)), refused(0, api.ErrLimit))
	for n, want := range map[int]api.Errno{65528: api.OK, 65532: api.OK, 65536: api.ErrArg, 65540: api.ErrLimit, 65548: api.ErrLimit} {
		tooLong(t, fmt.Sprint("a batch of ", n), broad(), sized(t, 26, n), want)
	}
	tooLong(t, "a batch of the most", broad(), sized(t, 64, 2+64*2443), api.ErrLimit)
}

// tooLong asks for what becomes of a request that may be but for its length: OK says that it is a record.
func tooLong(t *testing.T, what, text string, r api.Request, want api.Errno) {
	t.Helper()
	b, e := wire.EncodeRequest(r)
	if (e != api.OK) != (want == api.ErrLimit) || (len(b) > 65537) != (want == api.ErrArg) {
		t.Fatalf("%s: %d bytes, %d", what, len(b), e)
	}
	if want != api.OK {
		refuses(t, what, text, r, refused(0, want))
	}
	s, d := stateWith(t, 1<<20, text)
	if got := do(s, r); !same(got, refused(0, want)) {
		t.Errorf("%s: %+v", what, got)
	}
	if got := look(opened(t, d)); !same(got, look(s)) {
		t.Errorf("%s: opened anew it is not the same", what)
	}
}

// TestDoFull: a request for which there is no room is refused, one byte more is enough.
func TestDoFull(t *testing.T) { // P20.2
	first, second := len(recorded(t, install(chapter))), len(recorded(t, insertFive()))
	s, d := stateWith(t, first-1, "")
	for range 2 {
		stays(t, "install", s, d, func() {
			if got := do(s, install(chapter)); !same(got, refused(0, api.ErrFull)) {
				t.Errorf("install: %+v", got)
			}
		})
	}
	for less := range 2 {
		s, d := stateWith(t, first+second-less, chapter)
		d.Fail(4)
		if less == 0 {
			d.Up()
			does(t, s, insertFive())
			continue
		}
		// What comes ahead of the room.
		if got := do(s, deleteFive()); !same(got, refused(0, api.ErrGone)) {
			t.Errorf("gone: %+v", got)
		}
		stays(t, "insert", s, d, func() {
			if got := do(s, insertFive()); !same(got, refused(0, api.ErrFull)) {
				t.Errorf("insert: %+v", got)
			}
		})
		// The failure is set still; for what is shorter there is room.
		if got := do(s, write()); !same(got, done{E: api.ErrCut}) {
			t.Errorf("write: %+v", got)
		}
		if want := recorded(t, install(chapter), write()); !bytes.Equal(d.Bytes(), want[:first+4]) {
			t.Errorf("the disk keeps %d bytes", len(d.Bytes()))
		}
	}
	if got := look(s); !same(got, looks{}) {
		t.Errorf("%+v", got)
	}
	// Without room and without power: the power comes first.
	s, d = stateWith(t, first+second-1, chapter)
	d.Fail(0)
	d.Append(nil)
	stays(t, "insert", s, d, func() {
		if got := do(s, insertFive()); !same(got, done{E: api.ErrCut}) {
			t.Errorf("without power: %+v", got)
		}
	})
}

// TestDoInstall: another program has its new world; only Now stays.
func TestDoInstall(t *testing.T) { // P20.2
	s, d := stateWith(t, 100000, "")
	s.Tick(3)
	want := looks{W: api.World{Now: 3}}
	if got := look(s); !same(got, want) {
		t.Errorf("nothing: %+v", got)
	}
	for n, text := range []string{three, chapter, three, "", three, three} {
		does(t, s, install(text))
		want = begun(t, text)
		want.W.Now = 3 + n
		if got := look(s); !same(got, want) {
			t.Fatalf("%d: %+v, want %+v", n, got, want)
		}
		l := groups(16)
		if text == three {
			l = append(l, api.Update{Kind: api.UpInsert, Table: "v", Entry: api.Entry{Action: "f"}}, api.Update{Kind: api.UpDefault, Table: "t", Entry: api.Entry{Action: "f"}})
		}
		does(t, s, write(l...))
		w := s.World()
		w.Random = 77
		if text == three {
			w.Arrays[0].Cells[0] = number(5, 9)
		}
		if e := s.Set(w); e != api.OK {
			t.Fatalf("%d: Set: %d", n, e)
		}
		s.Tick(1)
	}
	if got := recorded(t, install(three)); !bytes.HasPrefix(d.Bytes(), got) {
		t.Errorf("the disk keeps %.100x", d.Bytes())
	}
}

// TestDoWrite: the world is the one behind the updates; what they do not name stays, cells too.
func TestDoWrite(t *testing.T) { // P20.2
	s, d := stateWith(t, 100000, three)
	w := s.World()
	w.Random, w.Now = 5, 6
	w.Arrays[2].Cells[1], w.Arrays[2].Last[1] = number(64, 0), 6
	if e := s.Set(w); e != api.OK {
		t.Fatalf("Set: %d", e)
	}
	row := func(kind api.UpdateKind, lo uint64, action string, args ...api.Bits) api.Update {
		return api.Update{Kind: kind, Table: "t", Entry: api.Entry{Matches: []api.Match{{Value: number(8, lo)}, {Value: number(16, 0x8000), Len: 1}}, Action: action, Args: args}}
	}
	one, two := row(api.UpInsert, 1, "f"), row(api.UpInsert, 2, "g", number(16, 2))
	l := []api.Update{one, two, row(api.UpModify, 1, "g", number(16, 1)), row(api.UpDelete, 2, ""), {Kind: api.UpGroup, N: 15, Ports: []int{4, 4}}}
	kept := len(d.Bytes())
	does(t, s, write(l...))
	want := begun(t, three)
	want.W.Random, want.W.Now, want.W.Arrays = 5, 6, w.Arrays
	want.W.Tables[0].Entries = []api.Entry{one.Entry}
	want.W.Tables[0].Entries[0].Action, want.W.Tables[0].Entries[0].Args = "g", []api.Bits{number(16, 1)}
	want.W.Groups[15].Ports = []int{4, 4}
	if got := look(s); !same(got, want) {
		t.Errorf("%+v, want %+v", got, want)
	}
	if got := d.Bytes()[kept:]; !bytes.Equal(got, recorded(t, write(l...))) {
		t.Errorf("the disk keeps %x", got)
	}
}
