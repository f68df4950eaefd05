package journal_test

import (
	"bytes"
	"encoding/binary"
	"hash/crc32"
	"math/rand/v2"
	"slices"
	"testing"

	"pointsman/api"
	"pointsman/disk"
	"pointsman/journal"
)

// mostBytes are those of the longest record.
const mostBytes = 65537

// dice are alike on every run.
func dice() *rand.Rand { return rand.New(rand.NewPCG(5, 8)) }

func mixed(r *rand.Rand, n int) []byte {
	b := make([]byte, n)
	for i := range b {
		b[i] = byte(r.Uint32())
	}
	return b
}

// framed is a frame as the library's own packages make it; of any bytes, a record or not.
func framed(b []byte) []byte {
	f := binary.LittleEndian.AppendUint32(nil, uint32(len(b)))
	f = binary.LittleEndian.AppendUint32(f, crc32.ChecksumIEEE(b))
	return append(f, b...)
}

func framedAll(l ...[]byte) []byte {
	var b []byte
	for _, r := range l {
		b = append(b, framed(r)...)
	}
	return b
}

// readByHand holds each beginning of b against the frame of what stands behind its head.
func readByHand(b []byte) ([][]byte, int) {
	var l [][]byte
	at := 0
	for at+8 < len(b) {
		n := int(binary.LittleEndian.Uint32(b[at:]))
		end := at + 8 + n
		if n < 1 || n > mostBytes || end > len(b) || !bytes.Equal(b[at:end], framed(b[at+8:end])) {
			break
		}
		l = append(l, b[at+8:end])
		at = end
	}
	return l, at
}

func made(t *testing.T, room int) *disk.Disk {
	t.Helper()
	d, e := disk.New(room)
	if d == nil || e != api.OK {
		t.Fatalf("New(%d): %v, %d", room, d, e)
	}
	return d
}

// off is a disk that keeps these bytes, and has no power.
func off(t *testing.T, room int, kept []byte) *disk.Disk {
	t.Helper()
	d := made(t, room)
	is(t, "Append", d.Append(kept), api.OK)
	is(t, "Fail", d.Fail(0), api.OK)
	is(t, "Append", d.Append(nil), api.ErrCut)
	return d
}

func is(t *testing.T, what string, got, want api.Errno) {
	t.Helper()
	if got != want {
		t.Errorf("%s: error %d, want %d", what, got, want)
	}
}

func same(a, b [][]byte) bool { return slices.EqualFunc(a, b, bytes.Equal) }

func reads(t *testing.T, b []byte, n int, want ...[]byte) {
	t.Helper()
	if l, m := journal.Read(b); !same(l, want) || m != n {
		t.Fatalf("Read of %d bytes: %d records, %d; want %d records, %d", len(b), len(l), m, len(want), n)
	}
}

func opens(t *testing.T, d *disk.Disk, want ...[]byte) {
	t.Helper()
	if l, e := journal.Open(d); !same(l, want) || e != api.OK {
		t.Fatalf("Open: %v, %d; want %v", l, e, want)
	}
	keeps(t, d, framedAll(want...))
}

func keeps(t *testing.T, d *disk.Disk, want []byte) {
	t.Helper()
	if b := d.Bytes(); !bytes.Equal(b, want) {
		t.Fatalf("the disk keeps %v, want %v", b, want)
	}
}

func TestExamples(t *testing.T) { // P5.1 to P5.3
	a := []byte{1, 0, 0, 0, 0x43, 0xbe, 0xb7, 0xe8, 0x61}
	if f, e := journal.Frame([]byte{0x61}); !bytes.Equal(f, a) || e != api.OK {
		t.Errorf("Frame(61): %x, %d", f, e)
	}
	record := []byte{0x61}
	reads(t, slices.Concat(a, []byte{0xff, 0xff}), 9, record)
	reads(t, a[:8], 0)
	reads(t, nil, 0)
	reads(t, slices.Concat(a[:8], []byte{0x62}), 0)
	reads(t, make([]byte, 8), 0)
	d := made(t, 20)
	is(t, "Add(61)", journal.Add(d, record), api.OK)
	is(t, "Fail(3)", d.Fail(3), api.OK)
	is(t, "Add(62)", journal.Add(d, []byte{0x62}), api.ErrCut)
	if l, e := journal.Open(d); len(l) != 0 || e != api.ErrCut {
		t.Errorf("Open: %v, %d", l, e)
	}
	is(t, "Up", d.Up(), api.OK)
	opens(t, d, record)
	keeps(t, d, a)
	is(t, "Add(62)", journal.Add(d, []byte{0x62}), api.OK)
	is(t, "Add(63)", journal.Add(d, []byte{0x63}), api.ErrFull)
	opens(t, d, record, []byte{0x62})
}

func TestFrame(t *testing.T) { // P5.1
	r := dice()
	for _, n := range []int{1, 2, 3, 7, 8, 9, 255, 256, 257, 4096, 65534, 65535, 65536, mostBytes} {
		for _, b := range [][]byte{mixed(r, n), make([]byte, n), bytes.Repeat([]byte{0xff}, n)} {
			if f, e := journal.Frame(b); !bytes.Equal(f, framed(b)) || e != api.OK {
				t.Errorf("Frame of %d bytes: %d bytes, %d", n, len(f), e)
			}
		}
	}
	for x := range 256 {
		b := []byte{byte(x)}
		if f, e := journal.Frame(b); !bytes.Equal(f, framed(b)) || e != api.OK {
			t.Errorf("Frame(%x): %x, %d", b, f, e)
		}
	}
}

func TestFrameOfNoRecord(t *testing.T) { // P5.1, R2, R4
	for _, b := range [][]byte{nil, {}, make([]byte, 0, 9), make([]byte, mostBytes+1), make([]byte, mostBytes+2), make([]byte, 2*65536+1), make([]byte, 1<<20)} {
		if f, e := journal.Frame(b); len(f) != 0 || e != api.ErrArg {
			t.Errorf("Frame of %d bytes: %d bytes, %d", len(b), len(f), e)
		}
	}
}

func TestReadOfAllLengths(t *testing.T) { // P5.2, P5.4
	r := dice()
	var l [][]byte
	for _, n := range []int{1, mostBytes, 2, 65536, 8, 255, 256, 65535, 1} {
		l = append(l, mixed(r, n))
		b := framedAll(l...)
		reads(t, b, len(b), l...)
	}
}

// TestReadOfFewerBytes: of each beginning of the frames, those that are whole are read.
func TestReadOfFewerBytes(t *testing.T) { // P5.2, P5.4
	r := dice()
	var l [][]byte
	for n := range 12 {
		l = append(l, mixed(r, 1+n*n%7))
	}
	b, whole, end := framedAll(l...), 0, 0
	for n := range len(b) + 1 {
		if whole < len(l) && n == end+8+len(l[whole]) {
			whole, end = whole+1, n
		}
		reads(t, b[:n], end, l[:whole]...)
	}
	if whole != len(l) {
		t.Errorf("%d of %d frames were asked", whole, len(l))
	}
}

// TestReadOfWhatIsNoFrame: each of these ends the reading, at the beginning and behind a frame, though a frame follows.
func TestReadOfWhatIsNoFrame(t *testing.T) { // P5.2, R1
	long := make([]byte, mostBytes+1)
	told := func(n uint32, b []byte) []byte { // a length that is another one, with the sum of b
		return slices.Concat(binary.LittleEndian.AppendUint32(nil, n), framed(b)[4:])
	}
	a := []byte("abc")
	for i, no := range [][]byte{
		{0}, {1}, make([]byte, 7), make([]byte, 8), make([]byte, 100),
		framed(nil), // the sum of no bytes is right, but they are no record
		framed(long), framed(append(long, 1)),
		told(0, a), told(1, a), told(2, a), told(0x80000003, a), told(0x01000003, a), told(0xffffffff, a), told(0x7fffffff, a), told(0xfffffff8, a), told(0xfffffffb, a),
		bytes.Repeat([]byte{0xff}, 8), bytes.Repeat([]byte{0xff}, 100),
		{3, 0, 0, 0, 'a', 'b', 'c', 0, 0, 0, 0},
		{0, 0, 0, 3, framed(a)[4], framed(a)[5], framed(a)[6], framed(a)[7], 'a', 'b', 'c'}, // the highest first
		{3, 0, 0, 0, framed(a)[7], framed(a)[6], framed(a)[5], framed(a)[4], 'a', 'b', 'c'},
	} {
		for _, b := range [][]byte{no, slices.Concat(no, framed(a))} {
			if l, n := journal.Read(b); len(l) != 0 || n != 0 {
				t.Errorf("%d: %d records, %d", i, len(l), n)
			}
			reads(t, slices.Concat(framed([]byte{7}), b), 9, []byte{7})
		}
	}
}

// TestReadOfAFrameTooShort: one byte is missing of what the frame tells, at the end of what is there.
func TestReadOfAFrameTooShort(t *testing.T) { // P5.2, P5.4
	for _, n := range []int{1, 2, 9, 65536, mostBytes} {
		f := framed(make([]byte, n))
		reads(t, f, len(f), make([]byte, n))
		reads(t, f[:len(f)-1], 0)
		// The spare room behind what is handed in is no part of it.
		reads(t, slices.Concat(framed([]byte{1}), f)[:8+len(f)], 9, []byte{1})
	}
}

// TestOtherBytes: each byte of the middle one of three frames, made each other byte.
func TestOtherBytes(t *testing.T) { // P5.2, P5.4
	r := dice()
	l := [][]byte{mixed(r, 5), mixed(r, 11), mixed(r, 3)}
	b := framedAll(l...)
	from := 8 + len(l[0])
	for at := from; at < from+8+len(l[1]); at++ { // its length, its sum, and its record
		for x := 1; x < 256; x++ {
			c := slices.Clone(b)
			c[at] ^= byte(x)
			reads(t, c, from, l[0])
		}
	}
}

func TestOtherByteOfALongRecord(t *testing.T) { // P5.4
	r := dice()
	b := framedAll([]byte{1}, mixed(r, mostBytes), []byte{2})
	for range 300 {
		at := 9 + 8 + r.IntN(mostBytes)
		was := b[at]
		b[at] ^= byte(1 + r.IntN(255))
		reads(t, b, 9, []byte{1})
		b[at] = was
	}
	if l, n := journal.Read(b); len(l) != 3 || n != len(b) {
		t.Errorf("%d records, %d bytes", len(l), n)
	}
}

// TestReadByHand: frames with bytes of any kind between, some of them changed, held against another reading.
func TestReadByHand(t *testing.T) { // P5.2, R1
	r := dice()
	for range 20000 {
		var b []byte
		for range r.IntN(5) {
			b = append(b, framed(mixed(r, r.IntN(6)))...)
			if r.IntN(6) == 0 {
				b = append(b, mixed(r, r.IntN(12))...)
			}
		}
		if len(b) > 0 && r.IntN(2) == 0 {
			b[r.IntN(len(b))] = byte(r.IntN(10))
		}
		b = b[:len(b)-r.IntN(1+len(b))/3]
		l, n := readByHand(b)
		reads(t, b, n, l...)
	}
}

func TestOpen(t *testing.T) { // P5.3
	opens(t, made(t, 1))
	r := dice()
	l := [][]byte{mixed(r, 3), mixed(r, 300), mixed(r, 1)}
	for n := range l {
		b := framedAll(l[:n]...)
		for _, tail := range [][]byte{nil, {1}, framed(l[2])[:8], framed([]byte("x"))[1:], framed(nil), make([]byte, 40)} {
			d := made(t, 1000)
			is(t, "Append", d.Append(b), api.OK)
			is(t, "Append", d.Append(tail), api.OK)
			opens(t, d, l[:n]...)
			opens(t, d, l[:n]...)
			// What comes behind stands where the frames end.
			is(t, "Add", journal.Add(d, []byte("new")), api.OK)
			opens(t, d, append(l[:n:n], []byte("new"))...)
		}
	}
}

func TestOpenOfADiskThatIsOff(t *testing.T) { // P5.3, R2
	b := slices.Concat(framed([]byte("abc")), []byte{1, 2})
	d := off(t, 100, b)
	for range 2 {
		if l, e := journal.Open(d); len(l) != 0 || e != api.ErrCut {
			t.Errorf("Open: %v, %d", l, e)
		}
		keeps(t, d, b)
		if !d.Down() {
			t.Error("Open brought the power up")
		}
	}
	is(t, "Up", d.Up(), api.OK)
	keeps(t, d, b)
	opens(t, d, []byte("abc"))
	empty := off(t, 1, nil)
	if l, e := journal.Open(empty); len(l) != 0 || e != api.ErrCut {
		t.Errorf("Open of none: %v, %d", l, e)
	}
}

// TestOpenLeavesTheFailure: Open writes nothing, so a failure that is set waits for the Add behind it.
func TestOpenLeavesTheFailure(t *testing.T) { // P5.3
	d := made(t, 100)
	is(t, "Add", journal.Add(d, []byte("abc")), api.OK)
	is(t, "Append", d.Append([]byte{9, 9}), api.OK)
	is(t, "Fail", d.Fail(2), api.OK)
	opens(t, d, []byte("abc"))
	is(t, "Add", journal.Add(d, []byte("def")), api.ErrCut)
	keeps(t, d, slices.Concat(framed([]byte("abc")), []byte{3, 0}))
}

func TestAdd(t *testing.T) { // P5.3
	r := dice()
	d := made(t, 3*65536)
	var l [][]byte
	for _, n := range []int{1, mostBytes, 9, 65536, 2} {
		l = append(l, mixed(r, n))
		is(t, "Add", journal.Add(d, l[len(l)-1]), api.OK)
		keeps(t, d, framedAll(l...))
	}
	opens(t, d, l...)
}

// TestAddFull: a frame has room just to its last byte, and nothing is written of one that has none.
func TestAddFull(t *testing.T) { // P5.3, R2
	for _, n := range []int{1, 2, 100, mostBytes} {
		d := made(t, 9+8+n)
		is(t, "Add", journal.Add(d, []byte{1}), api.OK)
		is(t, "Fail", d.Fail(4), api.OK)
		if n < mostBytes {
			is(t, "Add of one more", journal.Add(d, make([]byte, n+1)), api.ErrFull)
		}
		keeps(t, d, framed([]byte{1}))
		is(t, "the failure is left", journal.Add(d, make([]byte, n)), api.ErrCut)
		is(t, "Up", d.Up(), api.OK)
		opens(t, d, []byte{1})
		is(t, "Add", journal.Add(d, make([]byte, n)), api.OK)
		is(t, "Add behind the room", journal.Add(d, []byte{1}), api.ErrFull)
		opens(t, d, []byte{1}, make([]byte, n))
	}
	is(t, "no room at all", journal.Add(made(t, 8), []byte{1}), api.ErrFull)
}

func TestAddOfNoRecord(t *testing.T) { // P5.3, R2
	for _, b := range [][]byte{nil, {}, make([]byte, mostBytes+1), make([]byte, 1<<20)} {
		d := made(t, 10)
		is(t, "Add", journal.Add(d, b), api.ErrArg)
		is(t, "Fail", d.Fail(4), api.OK)
		is(t, "Add while a failure is set", journal.Add(d, b), api.ErrArg)
		keeps(t, d, nil)
		if d.Down() {
			t.Error("the power is off")
		}
		is(t, "the failure is left", journal.Add(d, []byte{1}), api.ErrCut)
		// What may not be is told ahead of the power.
		is(t, "Add without power", journal.Add(d, b), api.ErrArg)
		is(t, "Add without power", journal.Add(d, []byte{1}), api.ErrCut)
		keeps(t, d, []byte{1, 0, 0, 0})
	}
}

func TestAddOfADiskThatIsOff(t *testing.T) { // P5.3
	d := off(t, 20, []byte{5})
	is(t, "Add", journal.Add(d, []byte{1}), api.ErrCut)
	is(t, "Add of too much", journal.Add(d, make([]byte, 40)), api.ErrCut)
	keeps(t, d, []byte{5})
	is(t, "Up", d.Up(), api.OK)
	is(t, "Add", journal.Add(d, []byte{1}), api.OK)
}

func TestNotThere(t *testing.T) { // P5.3, R3
	for _, d := range []*disk.Disk{nil, {}} {
		for range 2 {
			if l, e := journal.Open(d); len(l) != 0 || e != api.ErrNil {
				t.Errorf("Open: %v, %d", l, e)
			}
			for _, b := range [][]byte{nil, {}, {1}, make([]byte, mostBytes), make([]byte, mostBytes+1)} {
				is(t, "Add", journal.Add(d, b), api.ErrNil)
			}
			if len(d.Bytes()) != 0 || d.Down() {
				t.Error("a disk that is not there keeps something")
			}
		}
	}
}

// TestPowerFailsAtEachByte: of one Add among others, behind each number of bytes.
func TestPowerFailsAtEachByte(t *testing.T) { // P5.4
	a, b, c := []byte("first"), []byte("second one"), []byte("third")
	for n := range 8 + len(b) + 3 {
		d := made(t, 200)
		is(t, "Add", journal.Add(d, a), api.OK)
		is(t, "Fail", d.Fail(n), api.OK)
		is(t, "Add", journal.Add(d, b), api.ErrCut)
		is(t, "Up", d.Up(), api.OK)
		want := [][]byte{a}
		if n >= 8+len(b) {
			want = append(want, b)
		}
		opens(t, d, want...)
		is(t, "Add", journal.Add(d, c), api.OK)
		opens(t, d, append(want, c)...)
	}
}

// TestPowerFails: many Adds, the power failing in any of them; each time the journal is opened behind that.
func TestPowerFails(t *testing.T) { // P5.4
	r := dice()
	for range 300 {
		d := made(t, 1+r.IntN(600))
		var want [][]byte
		for range 40 {
			b := mixed(r, 1+r.IntN(20))
			cut := -1
			if r.IntN(3) == 0 {
				cut = r.IntN(32)
				is(t, "Fail", d.Fail(cut), api.OK)
			}
			switch e := journal.Add(d, b); {
			case e == api.OK && cut < 0:
				want = append(want, b)
			case e == api.ErrCut && cut >= 0:
				if cut >= 8+len(b) {
					want = append(want, b)
				}
				is(t, "Up", d.Up(), api.OK)
				opens(t, d, want...)
			case e == api.ErrFull:
				is(t, "Up", d.Up(), api.OK) // takes the failure away
			default:
				t.Fatalf("Add: %d with a failure behind %d", e, cut)
			}
			if r.IntN(4) == 0 {
				opens(t, d, want...)
			}
		}
		opens(t, d, want...)
	}
}

func TestHandedInStays(t *testing.T) { // R4
	room := bytes.Repeat([]byte{7}, 64)
	copy(room, framedAll([]byte("abc"), []byte("de")))
	was := slices.Clone(room)
	d := made(t, 100)
	journal.Read(room[:21])
	journal.Read(room[:17])
	journal.Frame(room[:10])
	journal.Frame(room[:0])
	is(t, "Add", journal.Add(d, room[:10]), api.OK)
	is(t, "Fail", d.Fail(9), api.OK)
	is(t, "Add", journal.Add(d, room[:10]), api.ErrCut)
	if !bytes.Equal(room, was) {
		t.Errorf("handed in, and now %v", room)
	}
	clear(room)
	is(t, "Up", d.Up(), api.OK)
	opens(t, d, was[:10])
}

func TestAnswersAreTheirOwn(t *testing.T) { // R4
	b := framedAll([]byte("abc"), []byte("de"), []byte("f"))
	was := slices.Clone(b)
	d := made(t, 100)
	is(t, "Append", d.Append(b), api.OK)
	for range 2 {
		read, _ := journal.Read(b)
		opened, _ := journal.Open(d)
		for _, l := range [][][]byte{read, opened} {
			for i, want := range []string{"abc", "de", "f"} {
				if string(l[i]) != want {
					t.Fatalf("record %d is %q: it shares memory", i, l[i])
				}
				clear(l[i][:cap(l[i])])
			}
			clear(l[:cap(l)])
		}
		keeps(t, d, was)
		if !bytes.Equal(b, was) {
			t.Fatal("an answer shares memory with what was handed in")
		}
	}
	x := []byte("abc")
	f, _ := journal.Frame(x)
	g, _ := journal.Frame(x)
	clear(f[:cap(f)])
	if string(x) != "abc" || !bytes.Equal(g, framed(x)) {
		t.Error("a frame shares memory")
	}
}

func TestTwoDisks(t *testing.T) { // R5
	a, b := made(t, 100), made(t, 100)
	is(t, "Add", journal.Add(a, []byte("a")), api.OK)
	is(t, "Fail", a.Fail(2), api.OK)
	is(t, "Add", journal.Add(b, []byte("b")), api.OK)
	is(t, "Add", journal.Add(a, []byte("c")), api.ErrCut)
	opens(t, b, []byte("b"))
	is(t, "Up", a.Up(), api.OK)
	opens(t, a, []byte("a"))
}

// BenchmarkOpen: the most records that a disk has room for.
func BenchmarkOpen(b *testing.B) {
	d, _ := disk.New(api.MaxDisk)
	d.Append(bytes.Repeat(framed([]byte{1}), api.MaxDisk/9))
	for b.Loop() {
		journal.Open(d)
	}
}
