package sums_test

import (
	"bytes"
	"hash/crc32"
	"math"
	"math/rand/v2"
	"slices"
	"testing"

	"pointsman/api"
	"pointsman/sums"
)

// The numbers of the table.
const (
	crc16 = iota + 1
	crc32Sum
	csum16
	xor16
)

// rows is the table of the chapter.
var rows = []struct {
	n     int
	name  string
	width int
}{{crc16, "crc16", 16}, {crc32Sum, "crc32", 32}, {csum16, "csum16", 16}, {xor16, "xor16", 16}}

// wrongNumbers are those of no row.
var wrongNumbers = []int{0, -1, -2, -4, 5, 6, 16, 32, 256, 257, 1 << 32, 1<<32 + 1, math.MinInt, math.MinInt + 1, math.MaxInt}

// edges are words at which adding up and turning go over.
var edges = []uint16{0, 1, 2, 0xff, 0x100, 0x101, 0x7fff, 0x8000, 0x8001, 0xa001, 0xff00, 0xfffe, 0xffff}

// dice are alike on every run.
func dice() *rand.Rand { return rand.New(rand.NewPCG(3, 16)) }

func mixed(r *rand.Rand, n int) []byte {
	b := make([]byte, n)
	for i := range b {
		b[i] = byte(r.Uint32())
	}
	return b
}

// sum is Sum where it may not fail.
func sum(t *testing.T, n int, b []byte) uint64 {
	t.Helper()
	x, e := sums.Sum(n, b)
	if e != api.OK || x.W != sums.Width(n) || x.Hi != 0 {
		t.Fatalf("Sum(%d) of %d bytes = %v, %d", n, len(b), x, e)
	}
	return x.Lo
}

func wantSum(t *testing.T, n int, b []byte, want uint64) {
	t.Helper()
	if x := sum(t, n, b); x != want {
		t.Errorf("Sum(%d) of %d bytes = %x; want %x", n, len(b), x, want)
	}
}

// bitByBit is a CRC as it is divided by hand: one bit of the bytes at a time.
func bitByBit(b []byte, polynomial, begin, turned uint64) uint64 {
	left := begin
	for i := range len(b) * 8 {
		bit := uint64(b[i/8]) >> (i % 8) & 1
		out := left&1 ^ bit
		left >>= 1
		if out == 1 {
			left ^= polynomial
		}
	}
	return left ^ turned
}

func wordsOf(b []byte) []uint16 {
	even := append(slices.Clone(b), make([]byte, len(b)%2)...)
	var l []uint16
	for p := range slices.Chunk(even, 2) {
		l = append(l, uint16(p[0])*256+uint16(p[1]))
	}
	return l
}

// addedByHand folds at each word, so no total is ever great.
func addedByHand(l ...uint16) uint16 {
	total := uint32(0)
	for _, w := range l {
		if total += uint32(w); total > 65535 {
			total = total%65536 + total/65536
		}
	}
	return uint16(total)
}

func xored(l []uint16) uint64 {
	x := uint16(0)
	for _, w := range l {
		x ^= w
	}
	return uint64(x)
}

func agree(t *testing.T, b []byte) {
	t.Helper()
	wantSum(t, crc16, b, bitByBit(b, 0xa001, 0, 0))
	wantSum(t, crc32Sum, b, bitByBit(b, 0xedb88320, 0xffffffff, 0xffffffff))
	wantSum(t, crc32Sum, b, uint64(crc32.ChecksumIEEE(b)))
	wantSum(t, csum16, b, uint64(^addedByHand(wordsOf(b)...)))
	wantSum(t, xor16, b, xored(wordsOf(b)))
}

func TestExamples(t *testing.T) { // P3.1, P3.2
	header := []byte{0x45, 0, 0, 0x73, 0, 0, 0x40, 0, 0x40, 0x11, 0, 0, 0xc0, 0xa8, 0, 1, 0xc0, 0xa8, 0, 0xc7}
	for _, c := range []struct {
		n    int
		b    []byte
		want api.Bits
	}{
		{crc16, []byte("123456789"), api.Bits{W: 16, Lo: 0xbb3d}},
		{crc32Sum, []byte("123456789"), api.Bits{W: 32, Lo: 0xcbf43926}},
		{csum16, []byte("123456789"), api.Bits{W: 16, Lo: 0xf62a}},
		{xor16, []byte("123456789"), api.Bits{W: 16, Lo: 0x3908}},
		{csum16, header, api.Bits{W: 16, Lo: 0xb861}},
	} {
		if x, e := sums.Sum(c.n, c.b); x != c.want || e != api.OK {
			t.Errorf("Sum(%d, %x) = %v, %d; want %v", c.n, c.b, x, e, c.want)
		}
	}
	if x := sums.Turn(0xb861, 0x4011, 0x3f11); x != 0xb961 {
		t.Errorf("Turn = %x", x)
	}
}

func TestSumOfNoBytes(t *testing.T) { // P3.1, R4
	for _, b := range [][]byte{nil, {}, make([]byte, 0, 9), []byte("123")[:0]} {
		for n, want := range map[int]api.Bits{crc16: {W: 16}, crc32Sum: {W: 32}, csum16: {W: 16, Lo: 0xffff}, xor16: {W: 16}} {
			if x, e := sums.Sum(n, b); x != want || e != api.OK {
				t.Errorf("Sum(%d) of no bytes = %v, %d", n, x, e)
			}
		}
	}
}

func TestSumOfWrongNumbers(t *testing.T) { // P3.1, R1, R2
	for _, n := range wrongNumbers {
		for _, b := range [][]byte{nil, {}, {0}, []byte("123456789")} {
			if x, e := sums.Sum(n, b); x != (api.Bits{}) || e != api.ErrArg {
				t.Errorf("Sum(%d, %x) = %v, %d", n, b, x, e)
			}
		}
	}
}

func TestSumOfFewBytes(t *testing.T) { // P3.1
	for x := range 256 {
		agree(t, []byte{byte(x)})
		for y := range 256 {
			agree(t, []byte{byte(x), byte(y)})
		}
	}
}

func TestSumOfManyBytes(t *testing.T) { // P3.1
	r := dice()
	for n := range 600 {
		agree(t, mixed(r, n))
		agree(t, make([]byte, n))
		agree(t, bytes.Repeat([]byte{0xff}, n))
		agree(t, append(make([]byte, n), 1))
		agree(t, append([]byte{0x80}, make([]byte, n)...))
	}
	for _, n := range []int{api.MaxPacket, 65535, 65536, 65537} {
		agree(t, mixed(r, n))
	}
}

// TestSumOfGreatTotals: the words of these come to more than 32 bits have.
func TestSumOfGreatTotals(t *testing.T) { // P3.1
	ones := bytes.Repeat([]byte{0xff}, 1<<21+1)
	agree(t, ones)
	agree(t, ones[1:])
	agree(t, append(ones, 0, 7))
}

// TestWordsOfOddBytes: the word at the end has the last byte above, and 0 below.
func TestWordsOfOddBytes(t *testing.T) { // P3.1
	r := dice()
	for n := 1; n < 40; n += 2 {
		b := mixed(r, n)
		filled := append(slices.Clone(b), 0)
		for _, s := range []int{csum16, xor16} {
			wantSum(t, s, b, sum(t, s, filled))
		}
	}
	wantSum(t, xor16, []byte{0xab}, 0xab00)
	wantSum(t, csum16, []byte{0xab}, 0x54ff)
	wantSum(t, xor16, []byte{1, 2, 3}, 0x0202)
	wantSum(t, csum16, []byte{1, 2, 3}, 0xfbfd)
}

func TestCsumFoldsAgain(t *testing.T) { // P3.1
	// 0x1ffff is folded to 0x10000, which is above 65535 still.
	wantSum(t, csum16, []byte{0xff, 0xff, 0xff, 0xff, 0, 1}, 0xfffe)
	// 65535 is not above 65535: it is not folded to 0.
	wantSum(t, csum16, []byte{0xff, 0xff}, 0)
	wantSum(t, csum16, []byte{0xff, 0xff, 0xff, 0xff}, 0)
	wantSum(t, csum16, []byte{0, 0}, 0xffff)
}

func TestRows(t *testing.T) { // P3.1
	for _, r := range rows {
		if sums.Width(r.n) != r.width || sums.Name(r.n) != r.name || sums.Find(r.name) != r.n {
			t.Errorf("row %d: Width %d, Name %q, Find %d", r.n, sums.Width(r.n), sums.Name(r.n), sums.Find(r.name))
		}
		if x, e := sums.Sum(r.n, []byte{1}); x.W != r.width || e != api.OK {
			t.Errorf("Sum(%d) = %v, %d", r.n, x, e)
		}
	}
	for _, n := range wrongNumbers {
		if sums.Width(n) != 0 || sums.Name(n) != "" {
			t.Errorf("row %d: Width %d, Name %q", n, sums.Width(n), sums.Name(n))
		}
	}
}

func TestFindOfOtherNames(t *testing.T) { // P3.1
	others := []string{"", " ", "CRC16", "Crc16", "crc", "crc8", "crc64", "crc16 ", " crc16", "crc16\x00", "crc1", "rc16", "crc32c", "csum", "csum32", "Csum16", "xor", "xor32", "xoR16", "sum16", "crc16crc32", "1", "4", "\xff", "crc16\n"}
	for _, s := range others {
		if n := sums.Find(s); n != 0 {
			t.Errorf("Find(%q) = %d", s, n)
		}
	}
	for range 50 { // whatever order the rows are gone through
		for _, r := range rows {
			if n := sums.Find(r.name); n != r.n {
				t.Fatalf("Find(%q) = %d", r.name, n)
			}
		}
	}
}

func TestTurn(t *testing.T) { // P3.2
	r := dice()
	words := slices.Clone(edges)
	for range 40 {
		words = append(words, uint16(r.Uint32()))
	}
	for _, sum := range words {
		for _, old := range words {
			for _, next := range words {
				if x, want := sums.Turn(sum, old, next), ^addedByHand(^sum, ^old, next); x != want {
					t.Fatalf("Turn(%x, %x, %x) = %x; want %x", sum, old, next, x, want)
				}
			}
		}
	}
}

func TestTurnAtItsEdges(t *testing.T) { // P3.2
	for _, c := range [][4]uint16{
		{0xffff, 0xffff, 0, 0xffff}, // nothing to add up: 0, turned
		{0, 0xffff, 0, 0},           // 65535 is not folded
		{0xffff, 0, 0, 0},
		{0, 0, 0, 0},
		{0, 0, 0xffff, 0},
		{0xffff, 0, 1, 0xfffe},
		{0, 0, 1, 0xfffe}, // 0x1ffff is folded twice
		{0xffff, 0xffff, 0xffff, 0},
	} {
		if x := sums.Turn(c[0], c[1], c[2]); x != c[3] {
			t.Errorf("Turn(%x, %x, %x) = %x; want %x", c[0], c[1], c[2], x, c[3])
		}
	}
}

// setWord makes the word at a place another one, as far as b has bytes for it.
func setWord(b []byte, at int, w uint16) []byte {
	c := slices.Clone(b)
	c[at] = byte(w >> 8)
	if at+1 < len(c) {
		c[at+1] = byte(w)
	}
	return c
}

func TestTurnIsTheSumOfOtherBytes(t *testing.T) { // P3.3
	r := dice()
	for n := 1; n < 24; n++ {
		for _, b := range [][]byte{make([]byte, n), bytes.Repeat([]byte{0xff}, n), mixed(r, n), mixed(r, n)} {
			for at := 0; at < n; at += 2 {
				for _, next := range append(edges, uint16(r.Uint32())) {
					turned(t, b, at, next)
				}
			}
		}
	}
}

func turned(t *testing.T, b []byte, at int, next uint16) {
	t.Helper()
	c := setWord(b, at, next)
	if bytes.Count(c, []byte{0}) == len(c) { // the one case that is left out
		return
	}
	x := sums.Turn(uint16(sum(t, csum16, b)), wordsOf(b)[at/2], wordsOf(c)[at/2])
	wantSum(t, csum16, c, uint64(x))
}

// burst turns the bits of a pattern in b, the lowest bit of each byte first.
func burst(b []byte, at int, pattern uint32) []byte {
	c := slices.Clone(b)
	for i := range 32 {
		if pattern>>i&1 == 1 {
			c[(at+i)/8] ^= 1 << ((at + i) % 8)
		}
	}
	return c
}

func TestNeighbouringBitsChangeCRC16(t *testing.T) { // P3.3
	b := mixed(dice(), 5)
	was := sum(t, crc16, b)
	for at := 0; at+16 <= len(b)*8; at++ {
		for pattern := uint32(1); pattern < 1<<16; pattern++ {
			if sum(t, crc16, burst(b, at, pattern)) == was {
				t.Fatalf("bits %x turned at %d do not change crc16", pattern, at)
			}
		}
	}
}

func TestNeighbouringBitsChangeCRC32(t *testing.T) { // P3.3
	r := dice()
	b := mixed(r, 9)
	was := sum(t, crc32Sum, b)
	patterns := []uint32{1, 1 << 31, 1<<31 | 1, 0xffffffff, 0xedb88320, 0x04c11db7, 0x04c11db7<<1 | 1, 0xa001}
	for range 20000 {
		patterns = append(patterns, r.Uint32()|1)
	}
	for at := 0; at+32 <= len(b)*8; at++ {
		for _, pattern := range patterns {
			if sum(t, crc32Sum, burst(b, at, pattern)) == was {
				t.Fatalf("bits %x turned at %d do not change crc32", pattern, at)
			}
		}
	}
}

func TestSumsBehindTheirBytes(t *testing.T) { // P3.3
	r := dice()
	for n := range 200 {
		for _, b := range [][]byte{mixed(r, n), make([]byte, n), bytes.Repeat([]byte{0xff}, n)} {
			x := sum(t, crc16, b)
			wantSum(t, crc16, append(slices.Clone(b), byte(x), byte(x>>8)), 0)
			if n%2 == 1 {
				continue
			}
			for _, s := range []int{csum16, xor16} {
				x := sum(t, s, b)
				wantSum(t, s, append(slices.Clone(b), byte(x>>8), byte(x)), 0)
			}
		}
	}
}

func TestCRCsOfThreeLists(t *testing.T) { // P3.3
	r := dice()
	for n := range 200 {
		a, b, c, all := mixed(r, n), mixed(r, n), mixed(r, n), make([]byte, n)
		for i := range all {
			all[i] = a[i] ^ b[i] ^ c[i]
		}
		for _, s := range []int{crc16, crc32Sum} {
			wantSum(t, s, all, sum(t, s, a)^sum(t, s, b)^sum(t, s, c))
		}
	}
}

func TestSumLeavesItsArgument(t *testing.T) { // R4, R5
	room := mixed(dice(), 40)
	before := slices.Clone(room)
	for n := range 40 {
		for _, r := range rows {
			first := sum(t, r.n, room[:n])
			if !bytes.Equal(room, before) {
				t.Fatalf("Sum(%d) of %d bytes changed what was handed in", r.n, n)
			}
			sum(t, r.n, room)
			wantSum(t, r.n, before[:n:n], first)
		}
	}
}

// TestSumKeepsNothing: other content in the same memory has a sum of its own.
func TestSumKeepsNothing(t *testing.T) { // R4, R5
	b := []byte("123456789")
	for _, r := range rows {
		first := sum(t, r.n, b)
		b[0] = 'x'
		if sum(t, r.n, b) == first {
			t.Errorf("Sum(%d) does not see other bytes", r.n)
		}
		b[0] = '1'
		wantSum(t, r.n, b, first)
	}
}

func BenchmarkSum(b *testing.B) {
	for _, r := range rows {
		for _, size := range []int{16, api.MaxPacket} {
			l := make([]byte, size)
			b.Run(r.name, func(b *testing.B) {
				b.SetBytes(int64(size))
				for b.Loop() {
					sums.Sum(r.n, l)
				}
			})
		}
	}
}
