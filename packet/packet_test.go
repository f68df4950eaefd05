package packet_test

import (
	"bytes"
	"math"
	"math/big"
	"slices"
	"testing"

	"pointsman/api"
	"pointsman/packet"
)

const (
	mostBytes = 65536
	mostBits  = 524288
	all       = math.MaxUint64
)

// wrongWidths are those that no number has.
var wrongWidths = []int{0, -1, -8, -64, math.MinInt, 129, 130, 256, math.MaxInt}

func num(w int, lo uint64) api.Bits { return api.Bits{W: w, Lo: lo} }

// mixed are n bytes, all of them with bits of both kinds, alike on every run.
func mixed(n int) []byte {
	b := make([]byte, n)
	x := uint32(2463534242)
	for i := range b {
		x ^= x << 13
		x ^= x >> 17
		x ^= x << 5
		b[i] = byte(x >> 9)
	}
	return b
}

func made(t *testing.T, b []byte) *packet.Cursor {
	t.Helper()
	c, e := packet.New(b)
	if c == nil || e != api.OK {
		t.Fatalf("New of %d bytes: %v, %d", len(b), c, e)
	}
	return c
}

func take(t *testing.T, c *packet.Cursor, w int) api.Bits {
	t.Helper()
	x, e := c.Take(w)
	if e != api.OK {
		t.Fatalf("Take(%d): error %d", w, e)
	}
	return x
}

// stands asks what a cursor tells of its place.
func stands(t *testing.T, c *packet.Cursor, at, left int, rest []byte) {
	t.Helper()
	if c.At() != at || c.Left() != left || !bytes.Equal(c.Rest(), rest) {
		t.Errorf("At %d, Left %d, Rest %x; want %d, %d, %x", c.At(), c.Left(), c.Rest(), at, left, rest)
	}
}

// cutOut is the number that w bits of b from a bit on make, worked out from all of b as one great number.
func cutOut(b []byte, at, w int) api.Bits {
	v := new(big.Int).SetBytes(b)
	v.Rsh(v, uint(len(b)*8-at-w))
	lo := new(big.Int).And(v, new(big.Int).SetUint64(all))
	hi := new(big.Int).Rsh(v, 64)
	hi.And(hi, new(big.Int).SetUint64(all))
	x := api.Bits{W: w, Hi: hi.Uint64(), Lo: lo.Uint64()}
	if w <= 64 {
		x.Hi = 0
		x.Lo &= 1<<w - 1
	} else {
		x.Hi &= 1<<(w-64) - 1
	}
	return x
}

func TestNew(t *testing.T) { // P2.1
	for _, n := range []int{0, 1, 2, 1000, mostBytes - 1, mostBytes} {
		b := mixed(n)
		stands(t, made(t, b), 0, n*8, b)
	}
	stands(t, made(t, nil), 0, 0, nil)
	for _, n := range []int{mostBytes + 1, mostBytes + 2, 2 * mostBytes} {
		if c, e := packet.New(make([]byte, n)); c != nil || e != api.ErrLimit {
			t.Errorf("New of %d bytes: %v, %d", n, c, e)
		}
	}
}

func TestNewKeepsNoMoreThanTheContent(t *testing.T) { // R4
	room := []byte{1, 2, 3, 4, 5, 6}
	b := room[:3]
	c := made(t, b)
	d := made(t, b)
	b[0], b[1], b[2] = 9, 9, 9
	stands(t, c, 0, 24, []byte{1, 2, 3})
	if x := take(t, c, 24); x != num(24, 0x010203) {
		t.Errorf("Take(24) = %v", x)
	}
	stands(t, d, 0, 24, []byte{1, 2, 3})
	if !bytes.Equal(room, []byte{9, 9, 9, 4, 5, 6}) {
		t.Errorf("what was handed in is %v", room)
	}
}

func TestRestIsNewMemory(t *testing.T) { // R4
	c := made(t, []byte{1, 2, 3, 4})
	take(t, c, 8)
	r, s := c.Rest(), c.Rest()
	for _, l := range [][]byte{r, s} {
		l = l[:cap(l)]
		for i := range l {
			l[i] = 0xee
		}
		if !bytes.Equal(c.Rest(), []byte{2, 3, 4}) {
			t.Fatalf("Rest = %v", c.Rest())
		}
	}
	r[0] = 1
	if s[0] != 0xee {
		t.Error("two answers share memory")
	}
	if x := take(t, c, 24); x != num(24, 0x020304) {
		t.Errorf("Take(24) = %v", x)
	}
}

func TestExamples(t *testing.T) { // P2.2
	c := made(t, []byte{0xa5, 0x0f, 0x3c})
	for _, s := range []struct {
		w    int
		want api.Bits
		e    api.Errno
		at   int
		rest []byte
	}{
		{4, num(4, 0xa), api.OK, 4, []byte{0x0f, 0x3c}},
		{8, num(8, 0x50), api.OK, 12, []byte{0x3c}},
		{0, api.Bits{}, api.ErrArg, 12, []byte{0x3c}},
		{129, api.Bits{}, api.ErrArg, 12, []byte{0x3c}},
		{13, api.Bits{}, api.ErrShort, 12, []byte{0x3c}},
		{4, num(4, 0xf), api.OK, 16, []byte{0x3c}},
		{8, num(8, 0x3c), api.OK, 24, nil},
		{1, api.Bits{}, api.ErrShort, 24, nil},
	} {
		if x, e := c.Take(s.w); x != s.want || e != s.e {
			t.Errorf("Take(%d) = %v, %d", s.w, x, e)
		}
		stands(t, c, s.at, 24-s.at, s.rest)
	}
}

func TestTakeAtEveryPlaceAndWidth(t *testing.T) { // P2.2
	b := mixed(34)
	for at := range 2 * api.MaxWidth {
		for w := 1; w <= api.MaxWidth && at+w <= len(b)*8; w++ {
			c := made(t, b)
			for n := at; n > 0; n -= min(n, api.MaxWidth) {
				take(t, c, min(n, api.MaxWidth))
			}
			if x := take(t, c, w); x != cutOut(b, at, w) {
				t.Fatalf("Take(%d) at %d = %v; want %v", w, at, x, cutOut(b, at, w))
			}
			end := at + w
			stands(t, c, end, len(b)*8-end, b[(end+7)/8:])
		}
	}
}

func TestTakeBeyondTheEnd(t *testing.T) { // P2.2, P2.4
	for n := range 17 {
		for w := 1; w <= api.MaxWidth; w++ {
			b := mixed(n)
			c := made(t, b)
			x, e := c.Take(w)
			if w > n*8 {
				if x != (api.Bits{}) || e != api.ErrShort {
					t.Errorf("%d bytes: Take(%d) = %v, %d", n, w, x, e)
				}
				stands(t, c, 0, n*8, b)
			} else if x != cutOut(b, 0, w) || e != api.OK {
				t.Errorf("%d bytes: Take(%d) = %v, %d", n, w, x, e)
			}
		}
	}
}

func TestTakeOfWrongWidths(t *testing.T) { // P2.2, P2.4, R2
	for _, b := range [][]byte{nil, {0xff}, mixed(40)} {
		for _, w := range wrongWidths {
			c := made(t, b)
			if x, e := c.Take(w); x != (api.Bits{}) || e != api.ErrArg {
				t.Errorf("%d bytes: Take(%d) = %v, %d", len(b), w, x, e)
			}
			stands(t, c, 0, len(b)*8, b)
		}
	}
}

func TestTakeToTheEndOfTheGreatest(t *testing.T) { // P2.1, P2.2
	b := mixed(mostBytes)
	c := made(t, b)
	for i := range mostBytes / 16 {
		if x := take(t, c, 128); x != cutOut(b[i*16:i*16+16], 0, 128) {
			t.Fatalf("Take(128) number %d = %v", i, x)
		}
	}
	stands(t, c, mostBits, 0, nil)
	if x, e := c.Take(1); x != (api.Bits{}) || e != api.ErrShort {
		t.Errorf("Take(1) = %v, %d", x, e)
	}
}

func TestCursorsThatAreNotThere(t *testing.T) { // R3
	for _, c := range []*packet.Cursor{nil, {}, new(packet.Cursor)} {
		for _, w := range append([]int{1, 8, 128}, wrongWidths...) {
			if x, e := c.Take(w); x != (api.Bits{}) || e != api.ErrNil {
				t.Errorf("Take(%d) = %v, %d", w, x, e)
			}
		}
		stands(t, c, 0, 0, nil)
	}
}

func TestCursorsShareNothing(t *testing.T) { // R5
	b := mixed(8)
	c, d := made(t, b), made(t, b)
	take(t, c, 13)
	stands(t, d, 0, 64, b)
	if x := take(t, d, 64); x != cutOut(b, 0, 64) {
		t.Errorf("Take(64) = %v", x)
	}
	stands(t, c, 13, 51, b[2:])
}

// laid is what Put is to answer, made from one great number.
func laid(l []api.Bits) []byte {
	v, w := new(big.Int), 0
	for _, x := range l {
		n := new(big.Int).SetUint64(x.Hi)
		n.Lsh(n, 64).Or(n, new(big.Int).SetUint64(x.Lo))
		v.Lsh(v, uint(x.W)).Or(v, n)
		w += x.W
	}
	size := (w + 7) / 8
	v.Lsh(v, uint(size*8-w))
	return v.FillBytes(make([]byte, size))
}

func put(t *testing.T, l []api.Bits) []byte {
	t.Helper()
	b, e := packet.Put(l)
	if e != api.OK {
		t.Fatalf("Put of %d numbers: error %d", len(l), e)
	}
	return b
}

func TestPut(t *testing.T) { // P2.3
	top := api.Bits{W: 128, Hi: 1 << 63}
	for _, c := range []struct {
		l    []api.Bits
		want []byte
	}{
		{[]api.Bits{num(4, 0xa), num(8, 0x50)}, []byte{0xa5, 0x00}},
		{nil, nil}, {[]api.Bits{}, nil},
		{[]api.Bits{num(1, 1)}, []byte{0x80}}, {[]api.Bits{num(1, 0)}, []byte{0}},
		{[]api.Bits{num(8, 0xff)}, []byte{0xff}}, {[]api.Bits{num(9, 1)}, []byte{0, 0x80}},
		{[]api.Bits{num(7, 1), num(1, 1), num(1, 1)}, []byte{3, 0x80}},
		{[]api.Bits{top}, append([]byte{0x80}, make([]byte, 15)...)},
		{[]api.Bits{num(1, 0), top}, append([]byte{0x40}, make([]byte, 16)...)},
		{[]api.Bits{{W: 65, Hi: 1, Lo: 1}}, []byte{0x80, 0, 0, 0, 0, 0, 0, 0, 0x80}},
	} {
		if b := put(t, c.l); !bytes.Equal(b, c.want) {
			t.Errorf("Put(%v) = %x; want %x", c.l, b, c.want)
		}
	}
}

func TestPutAtEveryPlaceAndWidth(t *testing.T) { // P2.3
	b := mixed(18)
	for ahead := 1; ahead <= 8; ahead++ {
		for w := 1; w <= api.MaxWidth; w++ {
			for _, x := range []api.Bits{cutOut(b, 0, w), cutOut(b, 16, w), {W: w, Lo: 1}, num(w, 0)} {
				for _, l := range [][]api.Bits{{x}, {num(ahead, 1), x}, {x, num(ahead, 1)}, {x, num(ahead, 0), x}} {
					if got := put(t, l); !bytes.Equal(got, laid(l)) {
						t.Fatalf("Put(%v) = %x; want %x", l, got, laid(l))
					}
				}
			}
		}
	}
}

// notNumbers are such as may not be: of a width that none has, or with a bit at W or above.
func notNumbers() []api.Bits {
	l := []api.Bits{{}, num(1, 2), num(4, 16), num(63, 1<<63), {W: 1, Hi: 1}, {W: 64, Hi: 1}, {W: 65, Hi: 2}, {W: 127, Hi: 1 << 63}}
	for _, w := range wrongWidths {
		l = append(l, num(w, 0), num(w, 1), api.Bits{W: w, Hi: all, Lo: all})
	}
	return l
}

func TestPutOfWhatMayNotBe(t *testing.T) { // P2.3
	good := num(8, 0xff)
	for _, x := range notNumbers() {
		for _, l := range [][]api.Bits{{x}, {x, good}, {good, x}, {good, x, good}} {
			if b, e := packet.Put(l); len(b) != 0 || e != api.ErrArg {
				t.Errorf("Put(%v) = %x, %d", l, b, e)
			}
		}
	}
}

// wide are numbers of so many bits together.
func wide(w int) []api.Bits {
	l := slices.Repeat([]api.Bits{{W: 128, Hi: all, Lo: all}}, w/128)
	if w%128 != 0 {
		l = append(l, num(w%128, 1))
	}
	return l
}

func TestPutAtItsLimit(t *testing.T) { // P2.3
	b := put(t, wide(mostBits))
	if !bytes.Equal(b, bytes.Repeat([]byte{0xff}, mostBytes)) {
		t.Errorf("Put of %d bits: %d bytes", mostBits, len(b))
	}
	b = put(t, slices.Repeat([]api.Bits{num(1, 1)}, mostBits))
	if !bytes.Equal(b, bytes.Repeat([]byte{0xff}, mostBytes)) {
		t.Errorf("Put of %d single bits: %d bytes", mostBits, len(b))
	}
	b = put(t, wide(mostBits-127))
	if len(b) != mostBytes-15 || b[mostBytes-16] != 0x80 {
		t.Errorf("Put of %d bits: %d bytes", mostBits-127, len(b))
	}
	for _, more := range []int{1, 2, 8, 128, mostBits} {
		if b, e := packet.Put(wide(mostBits + more)); len(b) != 0 || e != api.ErrLimit {
			t.Errorf("Put of %d bits: %d bytes, %d", mostBits+more, len(b), e)
		}
	}
}

func TestPutNamesErrArgFirst(t *testing.T) { // P2.3, R2
	for _, x := range []api.Bits{{}, num(4, 16), num(math.MaxInt, 0), num(math.MinInt, 0)} {
		for _, l := range [][]api.Bits{append(wide(mostBits+1), x), append([]api.Bits{x}, wide(mostBits+1)...)} {
			if b, e := packet.Put(l); len(b) != 0 || e != api.ErrArg {
				t.Errorf("Put with %v beyond the limit: %d bytes, %d", x, len(b), e)
			}
		}
	}
}

func TestPutLeavesItsArgument(t *testing.T) { // R4
	room := []api.Bits{num(4, 0xa), num(8, 0x50), num(3, 7), num(128, 9)}
	before := slices.Clone(room)
	b := put(t, room[:2])
	c := put(t, room[:2])
	b = b[:cap(b)]
	for i := range b {
		b[i] = 0xee
	}
	if !slices.Equal(room, before) || !bytes.Equal(c, []byte{0xa5, 0}) {
		t.Errorf("%v, %x", room, c)
	}
}

// taken takes all bits of b, in widths that follow one another round and round, the last one as wide as is left.
func taken(t *testing.T, b []byte, widths []int) []api.Bits {
	t.Helper()
	c := made(t, b)
	var l []api.Bits
	for i := 0; c.Left() > 0; i++ {
		l = append(l, take(t, c, min(widths[i%len(widths)], c.Left())))
	}
	stands(t, c, len(b)*8, 0, nil)
	return l
}

// manyWidths are ways to take bits in pieces.
func manyWidths() [][]int {
	l := [][]int{{1, 128}, {3, 5}, {7, 1, 64, 65}, {128, 127, 2, 63}, {13, 77, 8}}
	for w := 1; w <= api.MaxWidth; w++ {
		l = append(l, []int{w})
	}
	return l
}

func TestWhatIsTakenIsPutAgain(t *testing.T) { // P2.4
	for _, n := range []int{0, 1, 2, 15, 16, 17, 100, api.MaxPacket} {
		b := mixed(n)
		for _, widths := range manyWidths() {
			if got := put(t, taken(t, b, widths)); !bytes.Equal(got, b) {
				t.Errorf("%d bytes, taken in widths %v, are put as others", n, widths)
			}
		}
	}
}

func TestWhatIsPutIsTakenAgain(t *testing.T) { // P2.4
	b := mixed(400)
	for _, widths := range manyWidths() {
		l := taken(t, b, widths)
		c := made(t, put(t, l))
		for i, x := range l {
			if got := take(t, c, x.W); got != x {
				t.Fatalf("widths %v: number %d is %v; want %v", widths, i, got, x)
			}
		}
		if c.Left() != 0 {
			t.Errorf("widths %v: %d bits are left", widths, c.Left())
		}
	}
}

func TestNoBitsBehindWhatIsPut(t *testing.T) { // P2.3, P2.4
	for w := 1; w <= api.MaxWidth; w++ {
		x := cutOut(bytes.Repeat([]byte{0xff}, 16), 0, w)
		c := made(t, put(t, []api.Bits{x}))
		if got := take(t, c, w); got != x {
			t.Errorf("%v is taken as %v", x, got)
		}
		if left := c.Left(); left >= 8 || left > 0 && take(t, c, left) != num(left, 0) {
			t.Errorf("%v: %d bits behind it", x, left)
		}
	}
}

func TestErrorsTakeNothing(t *testing.T) { // P2.4
	b := mixed(20)
	c := made(t, b)
	for at := 0; at < len(b)*8; at += 5 {
		stands(t, c, at, len(b)*8-at, b[(at+7)/8:])
		for _, w := range wrongWidths {
			if _, e := c.Take(w); e != api.ErrArg {
				t.Errorf("Take(%d): error %d", w, e)
			}
		}
		for w := c.Left() + 1; w <= api.MaxWidth; w++ {
			if _, e := c.Take(w); e != api.ErrShort {
				t.Errorf("Take(%d) at %d: error %d", w, at, e)
			}
		}
		if x := take(t, c, 5); x != cutOut(b, at, 5) {
			t.Errorf("Take(5) at %d = %v", at, x)
		}
	}
}
