package wire

import "math"

const (
	// mostWhole, mostByte and mostLong are the greatest that a whole, a byte and the two bytes of a long list tell.
	mostWhole = math.MaxInt32
	mostByte  = math.MaxUint8
	mostLong  = math.MaxUint16
	// wholeBytes is how many bytes a whole has.
	wholeBytes = 4
	byteBits   = 8
)

// whole stands as four bytes, the highest first. It has room for what is above mostWhole: bytes that are read may tell any.
type whole [wholeBytes]byte

func wholeOf(n uint32) whole {
	var w whole
	for i := range w {
		w[i] = byte(n >> (byteBits * (wholeBytes - 1 - i)))
	}
	return w
}

// wholeIn asks for four bytes or more.
func wholeIn(b []byte) whole {
	var w whole
	copy(w[:], b)
	return w
}

func (w whole) value() uint32 {
	var n uint32
	for _, b := range w {
		n = n<<byteBits | uint32(b)
	}
	return n
}
