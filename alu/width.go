package alu

// unsigned are the two widths of a number.
type unsigned interface{ uint32 | uint64 }

// signed are the same widths, of a number that may be below 0.
type signed interface{ int32 | int64 }

// pair is two numbers cut to one width. What is reckoned of them in 64 bits is
// right in its lowest bits, so that it need only be cut by most again.
type pair struct {
	a, b             uint64
	signedA, signedB int64
	most             uint64 // the greatest number of the width
	bits             uint64 // of the width
}

// pairOf reads a and b in one of the two widths.
func pairOf(narrow bool, a, b uint64) pair {
	if narrow {
		return read[uint32, int32](32, a, b)
	}
	return read[uint64, int64](64, a, b)
}

// read reads a and b in the width of U and S, which has so many bits.
func read[U unsigned, S signed](bits, a, b uint64) pair {
	return pair{
		a:       uint64(U(a)),
		b:       uint64(U(b)),
		signedA: int64(S(a)),
		signedB: int64(S(b)),
		most:    uint64(^U(0)),
		bits:    bits,
	}
}

// move is how far b moves a. A shift goes by b modulo the width, so that none
// moves by more than all bits.
func (p pair) move() uint64 {
	return p.b % p.bits
}
