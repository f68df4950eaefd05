package bits_test

import (
	"bytes"
	"fmt"
	"math"
	"math/big"
	"slices"
	"strings"
	"testing"

	"pointsman/api"
	"pointsman/bits"
)

const all = math.MaxUint64

// wrongWidths are those that no number has.
var wrongWidths = []int{0, -1, -64, math.MinInt, 129, 130, 192, 256, math.MaxInt}

// widths are those of numbers, the edges among them.
var widths = []int{1, 2, 3, 7, 8, 9, 16, 31, 32, 33, 63, 64, 65, 66, 100, 127, 128}

func num(w int, lo uint64) api.Bits { return api.Bits{W: w, Lo: lo} }

// value is the whole number that a number's bits make.
func value(b api.Bits) *big.Int {
	v := new(big.Int).SetUint64(b.Hi)
	return v.Or(v.Lsh(v, 64), new(big.Int).SetUint64(b.Lo))
}

// left is W bits of a value.
func left(w int, v *big.Int) api.Bits {
	r := new(big.Int).Mod(v, new(big.Int).Lsh(big.NewInt(1), uint(w)))
	lo := new(big.Int).And(r, new(big.Int).SetUint64(all))
	return api.Bits{W: w, Hi: r.Rsh(r, 64).Uint64(), Lo: lo.Uint64()}
}

// samples are numbers of w bits: the least and the greatest, single bits, and mixed ones.
func samples(w int) []api.Bits {
	one := big.NewInt(1)
	top := new(big.Int).Lsh(one, uint(w-1))
	mixed, _ := new(big.Int).SetString("c3a5960f1e2d8b7493857162faceb00d", 16)
	var l []api.Bits
	for _, v := range []*big.Int{
		big.NewInt(0), one, big.NewInt(2), big.NewInt(3), big.NewInt(int64(w) - 1), big.NewInt(int64(w)), big.NewInt(64),
		big.NewInt(-1), big.NewInt(-2), top, new(big.Int).Sub(top, one), new(big.Int).Add(top, one),
		new(big.Int).SetUint64(all), new(big.Int).Lsh(one, 63), new(big.Int).Lsh(one, 64),
		mixed, new(big.Int).Rsh(mixed, 17), new(big.Int).Not(mixed),
	} {
		if b := left(w, v); !slices.Contains(l, b) {
			l = append(l, b)
		}
	}
	return l
}

// notNumbers are such as may not be: of a width that none has, or with a bit at W or above.
func notNumbers() []api.Bits {
	l := []api.Bits{
		{}, num(1, 2), num(1, 3), num(4, 16), num(4, 1<<63), num(63, 1<<63), {W: 1, Hi: 1}, {W: 63, Hi: 1}, {W: 64, Hi: 1}, {W: 64, Hi: 1 << 63, Lo: 5},
		{W: 65, Hi: 2}, {W: 65, Hi: all, Lo: all}, {W: 100, Hi: 1 << 36}, {W: 127, Hi: 1 << 63}, {W: 127, Hi: all, Lo: 1},
	}
	for _, w := range wrongWidths {
		l = append(l, num(w, 0), num(w, 1), api.Bits{W: w, Hi: all, Lo: all})
	}
	return l
}

func TestOf(t *testing.T) { // P1.1
	for _, c := range []struct {
		w      int
		hi, lo uint64
		want   api.Bits
	}{
		{4, 0, 31, num(4, 15)}, {65, 3, 1, api.Bits{W: 65, Hi: 1, Lo: 1}}, {1, all, all, num(1, 1)}, {1, 0, 2, num(1, 0)},
		{63, 1, all, num(63, 1<<63-1)}, {64, 1, 5, num(64, 5)}, {64, all, all, num(64, all)}, {65, 2, 7, num(65, 7)},
		{127, all, all, api.Bits{W: 127, Hi: 1<<63 - 1, Lo: all}}, {128, all, all, api.Bits{W: 128, Hi: all, Lo: all}},
	} {
		if b, e := bits.Of(c.w, c.hi, c.lo); b != c.want || e != api.OK {
			t.Errorf("Of(%d, %#x, %#x) = %v, %d", c.w, c.hi, c.lo, b, e)
		}
	}
	for _, w := range wrongWidths {
		if b, e := bits.Of(w, 1, 1); b != (api.Bits{}) || e != api.ErrArg {
			t.Errorf("Of(%d, 1, 1) = %v, %d", w, b, e)
		}
	}
}

func TestOfCutsAtEveryWidth(t *testing.T) { // P1.1
	for w := 1; w <= api.MaxWidth; w++ {
		for _, c := range [][2]uint64{{all, all}, {0, all}, {all, 0}, {0x0123456789abcdef, 0xfedcba9876543210}} {
			want := left(w, value(api.Bits{Hi: c[0], Lo: c[1]}))
			if b, e := bits.Of(w, c[0], c[1]); b != want || e != api.OK {
				t.Errorf("Of(%d, %#x, %#x) = %v, %d", w, c[0], c[1], b, e)
			}
		}
	}
}

func TestCheck(t *testing.T) { // P1.1
	for w := 1; w <= api.MaxWidth; w++ {
		if !bits.Check(num(w, 0)) || !bits.Check(left(w, big.NewInt(-1))) {
			t.Errorf("Check: a number of %d bits", w)
		}
		for at := range api.MaxWidth {
			b := left(api.MaxWidth, new(big.Int).Lsh(big.NewInt(1), uint(at)))
			b.W = w
			if bits.Check(b) != (at < w) {
				t.Errorf("Check: %d bits, bit %d set", w, at)
			}
		}
	}
	for _, b := range notNumbers() {
		if bits.Check(b) {
			t.Errorf("Check(%v)", b)
		}
	}
}

func TestBytes(t *testing.T) { // P1.3
	for w := 1; w <= api.MaxWidth; w++ {
		for _, b := range samples(w) {
			want := value(b).FillBytes(make([]byte, (w+7)/8))
			if l, e := bits.Bytes(b); e != api.OK || !bytes.Equal(l, want) {
				t.Errorf("Bytes(%v) = %x, %d", b, l, e)
			}
		}
	}
	for _, b := range notNumbers() {
		if l, e := bits.Bytes(b); len(l) != 0 || e != api.ErrArg {
			t.Errorf("Bytes(%v) = %x, %d", b, l, e)
		}
	}
}

func TestRead(t *testing.T) { // P1.3
	for _, c := range []struct {
		w    int
		l    []byte
		want api.Bits
		e    api.Errno
	}{
		{12, []byte{0x0a, 5}, num(12, 0xa05), api.OK}, {1, []byte{1}, num(1, 1), api.OK}, {8, []byte{0xff}, num(8, 255), api.OK},
		{64, []byte{1, 2, 3, 4, 5, 6, 7, 8}, num(64, 0x0102030405060708), api.OK},
		{65, []byte{1, 0, 0, 0, 0, 0, 0, 0, 9}, api.Bits{W: 65, Hi: 1, Lo: 9}, api.OK},
		{12, []byte{0x1a, 5}, api.Bits{}, api.ErrForm}, {1, []byte{2}, api.Bits{}, api.ErrForm}, {65, []byte{2, 0, 0, 0, 0, 0, 0, 0, 0}, api.Bits{}, api.ErrForm},
		{12, []byte{5}, api.Bits{}, api.ErrForm}, {12, []byte{0, 0x0a, 5}, api.Bits{}, api.ErrForm}, {12, nil, api.Bits{}, api.ErrForm}, {8, []byte{}, api.Bits{}, api.ErrForm},
		{64, make([]byte, 9), api.Bits{}, api.ErrForm}, {65, make([]byte, 8), api.Bits{}, api.ErrForm},
		{128, make([]byte, 15), api.Bits{}, api.ErrForm}, {128, make([]byte, 17), api.Bits{}, api.ErrForm},
		{0, nil, api.Bits{}, api.ErrArg}, {129, make([]byte, 17), api.Bits{}, api.ErrArg},
	} {
		if b, e := bits.Read(c.w, c.l); b != c.want || e != c.e {
			t.Errorf("Read(%d, %x) = %v, %d", c.w, c.l, b, e)
		}
	}
	for _, w := range wrongWidths {
		for _, l := range [][]byte{nil, {0}, {1, 2}, make([]byte, 16), make([]byte, 17)} {
			if b, e := bits.Read(w, l); b != (api.Bits{}) || e != api.ErrArg {
				t.Errorf("Read(%d, %x) = %v, %d", w, l, b, e)
			}
		}
	}
}

// TestReadTakesOnlyBytes sets each bit of the first byte: those at W and above may not be there.
func TestReadTakesOnlyBytes(t *testing.T) { // P1.3
	for w := 1; w <= api.MaxWidth; w++ {
		n := (w + 7) / 8
		for bit := range 8 {
			l := make([]byte, n)
			l[0] = 1 << bit
			at := (n-1)*8 + bit
			b, e := bits.Read(w, l)
			if at < w && (e != api.OK || b != left(w, new(big.Int).Lsh(big.NewInt(1), uint(at)))) {
				t.Errorf("Read(%d, %x) = %v, %d", w, l, b, e)
			}
			if at >= w && (e != api.ErrForm || b != (api.Bits{})) {
				t.Errorf("Read(%d, %x) = %v, %d", w, l, b, e)
			}
		}
	}
}

// TestMemory: what is handed in is not changed, what is answered is new. (R4)
func TestMemory(t *testing.T) {
	room := []byte{0x0a, 5, 7, 7}
	b, _ := bits.Read(12, room[:2])
	if !bytes.Equal(room, []byte{0x0a, 5, 7, 7}) {
		t.Errorf("Read changed its bytes: %x", room)
	}
	room[0] = 0
	if b != num(12, 0xa05) {
		t.Errorf("Read keeps its bytes: %v", b)
	}
	first, _ := bits.Bytes(b)
	second, _ := bits.Bytes(b)
	for i := range first {
		first[i] = 0xff
	}
	if !bytes.Equal(second, []byte{0x0a, 5}) {
		t.Errorf("two answers of Bytes share memory: %x", second)
	}
}

func TestText(t *testing.T) { // P1.4
	for _, c := range []struct {
		b    api.Bits
		want string
	}{
		{num(12, 0xa05), "12wa05"}, {num(1, 0), "1w0"}, {num(1, 1), "1w1"}, {num(64, all), "64wffffffffffffffff"}, {num(128, 0), "128w0"}, {num(100, 0xabcdef), "100wabcdef"},
		{api.Bits{W: 65, Hi: 1}, "65w10000000000000000"}, {api.Bits{W: 128, Hi: 1, Lo: 2}, "128w10000000000000002"}, {api.Bits{W: 128, Hi: all, Lo: all}, "128wffffffffffffffffffffffffffffffff"},
	} {
		if s, e := bits.Text(c.b); s != c.want || e != api.OK {
			t.Errorf("Text(%v) = %q, %d", c.b, s, e)
		}
		if b, e := bits.Parse(c.want); b != c.b || e != api.OK {
			t.Errorf("Parse(%q) = %v, %d", c.want, b, e)
		}
	}
	for w := 1; w <= api.MaxWidth; w++ {
		for _, b := range samples(w) {
			if s, e := bits.Text(b); s != fmt.Sprintf("%dw%x", w, value(b)) || e != api.OK {
				t.Errorf("Text(%v) = %q, %d", b, s, e)
			}
		}
	}
	for _, b := range notNumbers() {
		if s, e := bits.Text(b); s != "" || e != api.ErrArg {
			t.Errorf("Text(%v) = %q, %d", b, s, e)
		}
	}
}

func TestParseRefuses(t *testing.T) { // P1.4
	for _, s := range []string{
		"", "w", "12", "12w", "w1", "a05", "12wA05", "12Wa05", "12w0a05", "12w00", "012w1", "00w0", "0w0", "0w", "-1w0", "129w0", "128w", "1280w0",
		"4w10", "1w2", "64w10000000000000000", "65w20000000000000000", "127w80000000000000000000000000000000", "128w100000000000000000000000000000000",
		"128w00000000000000000000000000000001", "+4w1", "4w+1", "-4w1", "4w-1", " 4w1", "4w1 ", "4 w1", "4w 1", "4w1\n", "4w1\x00", "4ww1", "4w1w", "4w1w1", "4w1g", "cw1", "0x4w1", "4w0x1", "1_2w1", "12w1_1",
		"18446744073709551620w1", "4294967300w1", "٤w1", "4w١", "4w\xff", "\xff4w1", "１2w1", "128w+1234567890abcdef0", "128w1+0000000000000001", "128w1-0000000000000001", "128wg0000000000000001", "128w1000000000000000g",
		"4w" + strings.Repeat("0", 100000) + "1", strings.Repeat("9", 100000) + "w1", "128w" + strings.Repeat("f", 100000), strings.Repeat("w", 1000),
	} {
		if b, e := bits.Parse(s); b != (api.Bits{}) || e != api.ErrForm {
			t.Errorf("Parse(%.60q) = %v, %d", s, b, e)
		}
	}
}

// TestParseIsStrict: a text that is one byte off a number's Text is refused, or is another number's Text.
func TestParseIsStrict(t *testing.T) { // P1.4
	for _, s := range []string{"12wa05", "128w10000000000000002", "65w1ffffffffffffffff", "1w1"} {
		for i := range len(s) {
			for c := range 256 {
				x := s[:i] + string([]byte{byte(c)}) + s[i+1:]
				b, e := bits.Parse(x)
				if e == api.OK {
					if y, e := bits.Text(b); y != x || e != api.OK {
						t.Errorf("Parse(%q) = %v, whose Text is %q", x, b, y)
					}
				} else if e != api.ErrForm || b != (api.Bits{}) {
					t.Errorf("Parse(%q) = %v, %d", x, b, e)
				}
			}
		}
	}
}

func TestFormsComeBack(t *testing.T) { // P1.5
	for w := 1; w <= api.MaxWidth; w++ {
		for _, b := range samples(w) {
			l, _ := bits.Bytes(b)
			if r, e := bits.Read(w, l); r != b || e != api.OK {
				t.Errorf("Read of Bytes of %v = %v, %d", b, r, e)
			}
			s, _ := bits.Text(b)
			if r, e := bits.Parse(s); r != b || e != api.OK {
				t.Errorf("Parse of Text of %v = %v, %d", b, r, e)
			}
		}
	}
}
