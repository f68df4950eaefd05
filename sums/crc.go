package sums

// The remainders are made anew for each sum, so they are those of half bytes: 16 cost a short list of bytes little, 256 would cost more than the list itself.
const (
	halfBits = 4
	halves   = 1 << halfBits
)

// allOnes are the 32 bits from which a CRC may begin, or which may be turned at its end.
const allOnes = 0xffffffff

// crc is a CRC whose sum is taken the lowest bit first: the polynomial stands so too. One of 16 bits needs no type of its own: bits move down only, so none comes above the 16.
func crc(polynomial, begin, turned uint32) func(b []byte) uint32 {
	return func(b []byte) uint32 {
		left := remainders(func(half uint32) uint32 { return divided(half, polynomial) })
		sum := begin
		for _, x := range b {
			sum ^= uint32(x)
			sum = sum>>halfBits ^ left[sum%halves]
			sum = sum>>halfBits ^ left[sum%halves]
		}
		return sum ^ turned
	}
}

func remainders(of func(half uint32) uint32) [halves]uint32 {
	var l [halves]uint32
	for i := range l {
		l[i] = of(uint32(i))
	}
	return l
}

// divided is what is left of a half byte when all its bits are taken.
func divided(half, polynomial uint32) uint32 {
	for range halfBits {
		half = half>>1 ^ (half&1)*polynomial
	}
	return half
}
