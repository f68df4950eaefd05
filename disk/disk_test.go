package disk_test

import (
	"bytes"
	"math"
	"math/rand/v2"
	"testing"

	"pointsman/api"
	"pointsman/disk"
)

func made(t *testing.T, room int) *disk.Disk {
	t.Helper()
	d, e := disk.New(room)
	if d == nil || e != api.OK {
		t.Fatalf("New(%d): %v, %d", room, d, e)
	}
	return d
}

func is(t *testing.T, what string, got, want api.Errno) {
	t.Helper()
	if got != want {
		t.Errorf("%s: error %d, want %d", what, got, want)
	}
}

// stands asks all that a disk tells of itself.
func stands(t *testing.T, d *disk.Disk, down bool, kept ...byte) {
	t.Helper()
	if b := d.Bytes(); !bytes.Equal(b, kept) || d.Down() != down {
		t.Errorf("Bytes %v, Down %v; want %v, %v", b, d.Down(), kept, down)
	}
}

// P4.1
func TestNew(t *testing.T) {
	for _, room := range []int{0, -1, math.MinInt, api.MaxDisk + 1, math.MaxInt} {
		if d, e := disk.New(room); d != nil || e != api.ErrArg {
			t.Errorf("New(%d): %v, %d; want none, ErrArg", room, d, e)
		}
	}
	for _, room := range []int{1, 2, 255, api.MaxDisk - 1, api.MaxDisk} {
		d := made(t, room)
		stands(t, d, false)
		is(t, "Append of no bytes", d.Append(nil), api.OK)
		stands(t, d, false)
	}
}

// P4.1, P4.2: the room is taken up to its last byte and no further, in one piece or in several.
func TestRoom(t *testing.T) {
	for _, room := range []int{1, 2, 8, 1000, api.MaxDisk} {
		whole := bytes.Repeat([]byte{7}, room)
		d := made(t, room)
		is(t, "more than the room", d.Append(append(whole, 7)), api.ErrFull)
		stands(t, d, false)
		is(t, "all but one", d.Append(whole[1:]), api.OK)
		is(t, "two more", d.Append([]byte{7, 7}), api.ErrFull)
		is(t, "one more", d.Append(whole[:1]), api.OK)
		is(t, "one above", d.Append([]byte{7}), api.ErrFull)
		is(t, "none above", d.Append(nil), api.OK)
		if !bytes.Equal(d.Bytes(), whole) {
			t.Errorf("room %d: %d bytes are kept", room, len(d.Bytes()))
		}
		is(t, "Trim by one", d.Trim(room-1), api.OK)
		is(t, "one in its place", d.Append([]byte{9}), api.OK)
		if b := d.Bytes(); len(b) != room || b[room-1] != 9 {
			t.Errorf("room %d: what was put behind a Trim is not kept", room)
		}
	}
}

// P4.2
func TestAppend(t *testing.T) {
	d := made(t, 8)
	is(t, "Append", d.Append([]byte{1, 2, 3}), api.OK)
	is(t, "Append", d.Append([]byte{}), api.OK)
	is(t, "Append", d.Append([]byte{0, 255}), api.OK)
	stands(t, d, false, 1, 2, 3, 0, 255)
	is(t, "Append", d.Append([]byte{1, 2, 3, 4}), api.ErrFull)
	stands(t, d, false, 1, 2, 3, 0, 255)
}

// P4.2: of so many bytes, with a failure behind so many, just the first ones stay.
func TestAppendCut(t *testing.T) {
	for n := range 8 {
		for size := range 7 {
			d := made(t, 9)
			is(t, "Append", d.Append([]byte{1, 2}), api.OK)
			is(t, "Fail", d.Fail(n), api.OK)
			stands(t, d, false, 1, 2)
			b := []byte{11, 12, 13, 14, 15, 16}[:size]
			is(t, "Append", d.Append(b), api.ErrCut)
			want := append([]byte{1, 2}, b[:min(n, size)]...)
			stands(t, d, true, want...)
			is(t, "Up", d.Up(), api.OK)
			is(t, "Append behind the failure", d.Append([]byte{9}), api.OK)
			stands(t, d, false, append(want, 9)...)
		}
	}
	d := made(t, 8)
	is(t, "Fail", d.Fail(math.MaxInt), api.OK)
	is(t, "Append", d.Append([]byte{1, 2}), api.ErrCut)
	stands(t, d, true, 1, 2)
}

// P4.2: what has no room answers so ahead of the failure, even if the failure would leave few enough of it.
func TestFullLeavesTheFailure(t *testing.T) {
	d := made(t, 4)
	is(t, "Append", d.Append([]byte{1, 2}), api.OK)
	is(t, "Fail", d.Fail(1), api.OK)
	is(t, "Append", d.Append([]byte{3, 4, 5}), api.ErrFull)
	stands(t, d, false, 1, 2)
	is(t, "Append", d.Append([]byte{6, 7}), api.ErrCut)
	stands(t, d, true, 1, 2, 6)
}

// P4.2: a power that is off comes ahead of what is too much and of what may not be.
func TestOff(t *testing.T) {
	d := made(t, 2)
	is(t, "Append", d.Append([]byte{1}), api.OK)
	is(t, "Fail", d.Fail(0), api.OK)
	is(t, "Append", d.Append(nil), api.ErrCut)
	for range 2 {
		is(t, "Append of none", d.Append(nil), api.ErrCut)
		is(t, "Append", d.Append([]byte{2}), api.ErrCut)
		is(t, "Append of too much", d.Append([]byte{2, 3, 4}), api.ErrCut)
		for _, n := range []int{0, 1, 2, -1, math.MinInt, math.MaxInt} {
			is(t, "Trim", d.Trim(n), api.ErrCut)
			is(t, "Fail", d.Fail(n), api.ErrCut)
		}
		stands(t, d, true, 1)
	}
	is(t, "Up", d.Up(), api.OK)
	is(t, "Append", d.Append([]byte{2}), api.OK)
	stands(t, d, false, 1, 2)
}

// P4.2
func TestTrim(t *testing.T) {
	d := made(t, 8)
	for _, n := range []int{1, -1, 8, math.MinInt, math.MaxInt} {
		is(t, "Trim of none", d.Trim(n), api.ErrArg)
	}
	is(t, "Trim(0) of none", d.Trim(0), api.OK)
	is(t, "Append", d.Append([]byte{1, 2, 3, 4}), api.OK)
	for _, n := range []int{-1, 5, 8, 9, math.MinInt, math.MaxInt} {
		is(t, "Trim", d.Trim(n), api.ErrArg)
		stands(t, d, false, 1, 2, 3, 4)
	}
	is(t, "Trim(4)", d.Trim(4), api.OK)
	stands(t, d, false, 1, 2, 3, 4)
	is(t, "Trim(3)", d.Trim(3), api.OK)
	stands(t, d, false, 1, 2, 3)
	is(t, "Trim(4)", d.Trim(4), api.ErrArg)
	is(t, "Trim(1)", d.Trim(1), api.OK)
	is(t, "Append", d.Append([]byte{5, 6}), api.OK)
	stands(t, d, false, 1, 5, 6)
	is(t, "Trim(0)", d.Trim(0), api.OK)
	stands(t, d, false)
}

// P4.2: Trim writes nothing, so it neither meets the failure nor takes it away.
func TestTrimLeavesTheFailure(t *testing.T) {
	d := made(t, 8)
	is(t, "Append", d.Append([]byte{1, 2, 3}), api.OK)
	is(t, "Fail", d.Fail(1), api.OK)
	is(t, "Trim", d.Trim(4), api.ErrArg)
	is(t, "Trim", d.Trim(1), api.OK)
	stands(t, d, false, 1)
	is(t, "Append", d.Append([]byte{4, 5}), api.ErrCut)
	stands(t, d, true, 1, 4)
}

// P4.3
func TestFail(t *testing.T) {
	d := made(t, 8)
	for _, n := range []int{-1, -2, math.MinInt} {
		is(t, "Fail", d.Fail(n), api.ErrArg)
	}
	is(t, "no failure is set yet", d.Append([]byte{1}), api.OK)
	is(t, "Fail", d.Fail(3), api.OK)
	is(t, "Fail in its place", d.Fail(1), api.OK)
	is(t, "Fail", d.Fail(-1), api.ErrArg)
	is(t, "Append", d.Append([]byte{2, 3, 4, 5}), api.ErrCut)
	stands(t, d, true, 1, 2)
	is(t, "Up", d.Up(), api.OK)
	is(t, "Fail", d.Fail(0), api.OK)
	is(t, "Fail in its place", d.Fail(2), api.OK)
	is(t, "Append", d.Append([]byte{6, 7, 8}), api.ErrCut)
	stands(t, d, true, 1, 2, 6, 7)
}

// P4.3
func TestUp(t *testing.T) {
	d := made(t, 8)
	is(t, "Up of one that is on", d.Up(), api.OK)
	is(t, "Fail", d.Fail(1), api.OK)
	is(t, "Up takes the failure away", d.Up(), api.OK)
	is(t, "Append", d.Append([]byte{1, 2}), api.OK)
	stands(t, d, false, 1, 2)
	is(t, "Fail", d.Fail(1), api.OK)
	is(t, "Append", d.Append([]byte{3, 4}), api.ErrCut)
	is(t, "Up", d.Up(), api.OK)
	stands(t, d, false, 1, 2, 3)
	is(t, "the failure was used up", d.Append([]byte{5}), api.OK)
	stands(t, d, false, 1, 2, 3, 5)
}

// model is a disk that remembers what was written, to hold another one against.
type model struct {
	room, fail int // fail below 0: none is set
	off        bool
	kept       []byte
}

func (m *model) append(b []byte) api.Errno {
	switch {
	case m.off:
		return api.ErrCut
	case len(m.kept)+len(b) > m.room:
		return api.ErrFull
	}
	for i, x := range b {
		if m.fail < 0 || i < m.fail {
			m.kept = append(m.kept, x)
		}
	}
	if m.fail < 0 {
		return api.OK
	}
	m.off, m.fail = true, -1
	return api.ErrCut
}

func (m *model) trim(n int) api.Errno {
	switch {
	case m.off:
		return api.ErrCut
	case n < 0 || n > len(m.kept):
		return api.ErrArg
	}
	m.kept = m.kept[:n]
	return api.OK
}

func (m *model) setFail(n int) api.Errno {
	switch {
	case m.off:
		return api.ErrCut
	case n < 0:
		return api.ErrArg
	}
	m.fail = n
	return api.OK
}

// P4.1 to P4.4, R2: calls in any order, held against the model behind each of them.
func TestAnyOrder(t *testing.T) {
	dice := rand.New(rand.NewPCG(4, 1))
	for round := range 300 {
		room := 1 + dice.IntN(40)
		d, m := made(t, room), &model{room: room, fail: -1}
		for step := range 200 {
			n := dice.IntN(room+6) - 2
			b := make([]byte, max(0, n/3))
			for i := range b {
				b[i] = byte(dice.Uint32())
			}
			var got, want api.Errno
			switch dice.IntN(8) {
			case 0, 1, 2, 3:
				got, want = d.Append(b), m.append(b)
			case 4:
				got, want = d.Trim(n), m.trim(n)
			case 5:
				got, want = d.Fail(n/4), m.setFail(n/4)
			default:
				got, m.off, m.fail = d.Up(), false, -1
			}
			if got != want || !bytes.Equal(d.Bytes(), m.kept) || d.Down() != m.off {
				t.Fatalf("round %d, step %d: %d, %v, %v; want %d, %v, %v", round, step, got, d.Bytes(), d.Down(), want, m.kept, m.off)
			}
		}
	}
}

// P4.4: without Trim, what is kept is all that was answered with OK, whole, and of each Append that failed a beginning, in order.
func TestWhatFollows(t *testing.T) {
	dice := rand.New(rand.NewPCG(4, 4))
	for range 200 {
		d := made(t, 300)
		next, kept := byte(0), 0
		for range 40 {
			b := make([]byte, dice.IntN(12))
			for i := range b {
				b[i] = next + byte(i)
			}
			if dice.IntN(3) == 0 {
				is(t, "Fail", d.Fail(dice.IntN(12)), api.OK)
			}
			before := d.Bytes()
			e := d.Append(b)
			after := d.Bytes()
			if !bytes.HasPrefix(after, before) || !bytes.HasPrefix(b, after[len(before):]) {
				t.Fatalf("%v became %v by %v", before, after, b)
			}
			grown := len(after) - len(before)
			switch e {
			case api.OK:
				if grown != len(b) {
					t.Fatalf("OK, but %d of %d bytes are there", grown, len(b))
				}
			case api.ErrCut:
				is(t, "Up", d.Up(), api.OK)
			case api.ErrFull:
				if grown != 0 || kept+len(b) <= 300 {
					t.Fatalf("ErrFull of %d bytes behind %d", len(b), kept)
				}
			}
			kept += grown
			next += byte(grown)
		}
		for i, x := range d.Bytes() {
			if x != byte(i) {
				t.Fatalf("byte %d is %d", i, x)
			}
		}
	}
}

// R1, R3
func TestNotThere(t *testing.T) {
	for _, d := range []*disk.Disk{nil, {}} {
		for range 2 {
			is(t, "Up", d.Up(), api.ErrNil)
			for _, b := range [][]byte{nil, {}, {1}, make([]byte, 1000)} {
				is(t, "Append", d.Append(b), api.ErrNil)
			}
			for _, n := range []int{0, 1, -1, math.MinInt, math.MaxInt} {
				is(t, "Trim", d.Trim(n), api.ErrNil)
				is(t, "Fail", d.Fail(n), api.ErrNil)
			}
			stands(t, d, false)
		}
	}
}

// R4: what is handed in is neither changed nor kept, its spare room neither.
func TestHandedIn(t *testing.T) {
	d := made(t, 64)
	room := []byte{1, 2, 3, 4, 5, 6, 7, 8}
	is(t, "Append", d.Append(room[:3]), api.OK)
	is(t, "Append", d.Append([]byte{9, 9}), api.OK)
	is(t, "Fail", d.Fail(2), api.OK)
	is(t, "Append", d.Append(room[3:6]), api.ErrCut)
	is(t, "Up", d.Up(), api.OK)
	is(t, "Trim", d.Trim(6), api.OK)
	is(t, "Append", d.Append([]byte{8}), api.OK)
	if !bytes.Equal(room, []byte{1, 2, 3, 4, 5, 6, 7, 8}) {
		t.Errorf("handed in, and now %v", room)
	}
	clear(room)
	stands(t, d, false, 1, 2, 3, 9, 9, 4, 8)
}

// R4: answers are memory of their own, spare room too.
func TestAnswers(t *testing.T) {
	d := made(t, 64)
	is(t, "Append", d.Append([]byte{1, 2, 3}), api.OK)
	a, b := d.Bytes(), d.Bytes()
	clear(a[:cap(a)])
	if !bytes.Equal(b, []byte{1, 2, 3}) {
		t.Errorf("two answers share memory: %v", b)
	}
	is(t, "Append", d.Append([]byte{4}), api.OK)
	is(t, "Trim", d.Trim(2), api.OK)
	is(t, "Append", d.Append([]byte{5}), api.OK)
	clear(b[:cap(b)])
	stands(t, d, false, 1, 2, 5)
	is(t, "Trim", d.Trim(0), api.OK)
	none := d.Bytes()
	clear(none[:cap(none)])
	is(t, "Append", d.Append([]byte{6}), api.OK)
	clear(none[:cap(none)])
	stands(t, d, false, 6)
}

// R5: two disks share nothing.
func TestTwoDisks(t *testing.T) {
	a, b := made(t, 4), made(t, 4)
	both := []byte{1, 2}
	is(t, "Append", a.Append(both), api.OK)
	is(t, "Append", b.Append(both), api.OK)
	is(t, "Fail", a.Fail(0), api.OK)
	is(t, "Append", b.Append([]byte{3}), api.OK)
	is(t, "Append", a.Append([]byte{4}), api.ErrCut)
	is(t, "Trim", b.Trim(1), api.OK)
	is(t, "Append", b.Append([]byte{5}), api.OK)
	stands(t, a, true, 1, 2)
	stands(t, b, false, 1, 5)
}
