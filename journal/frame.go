package journal

import (
	"iter"

	"pointsman/sums"
)

const (
	// mostBytes are those of the longest record.
	mostBytes = 65537
	// headBytes stand in a frame ahead of its record: two numbers.
	headBytes = 8
	// crc32 is that sum's number.
	crc32 = 2
)

// number stands in a frame as four bytes, the lowest first.
type number [4]byte

func numberOf(x uint64) number {
	var n number
	for i := range n {
		n[i] = byte(x >> (8 * i))
	}
	return n
}

func (n number) value() uint64 {
	var x uint64
	for i, b := range n {
		x |= uint64(b) << (8 * i)
	}
	return x
}

func sumOf(record []byte) number {
	// There is such a sum of any bytes.
	x, _ := sums.Sum(crc32, record)
	return numberOf(x.Lo)
}

// mayHave says if a record may have so many bytes.
func mayHave(n uint64) bool { return n >= 1 && n <= mostBytes }

// records hands out pieces of b itself: whoever keeps one takes a copy.
func records(b []byte) iter.Seq[[]byte] {
	return func(yield func([]byte) bool) {
		rest := b
		for {
			r := first(rest)
			if len(r) == 0 || !yield(r) {
				return
			}
			rest = rest[headBytes+len(r):]
		}
	}
}

// first is the record of the frame that b begins with; none, if no frame stands there.
func first(b []byte) []byte {
	if len(b) < headBytes {
		return nil
	}
	var size, sum number
	copy(size[:], b)
	copy(sum[:], b[len(size):])
	n, rest := size.value(), b[headBytes:]
	// A length is asked ahead of its use as a place: the bytes may tell any.
	if !mayHave(n) || n > uint64(len(rest)) {
		return nil
	}
	if r := rest[:n]; sumOf(r) == sum {
		return r
	}
	return nil
}
