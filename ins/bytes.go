package ins

import (
	"math/bits"

	"barbican/api"
)

// insSize is how many bytes an instruction has.
const insSize = 8

// The first byte's bits. That of Narrow is the lower one of the two of Size, as
// no kind has both.
const (
	opBits    = 1<<5 - 1
	immBit    = 1 << 5
	narrowBit = 1 << 6
	sizeAt    = 6
)

// The second byte's bits.
const (
	dstAt   = 4
	srcBits = 1<<dstAt - 1
)

// bytesOf is the bytes of i, which is right.
func bytesOf(i api.Ins) [insSize]byte {
	first := byte(i.Op)
	if i.UseImm {
		first |= immBit
	}
	if i.Narrow {
		first |= narrowBit
	}
	if fieldsOf(i.Op).any(size) {
		first |= byte(bits.TrailingZeros(uint(i.Size)) << sizeAt)
	}
	return [insSize]byte{
		first, byte(i.Dst<<dstAt | i.Src),
		byte(i.Off >> 8), byte(i.Off),
		byte(i.Imm >> 24), byte(i.Imm >> 16), byte(i.Imm >> 8), byte(i.Imm),
	}
}

// insOf is the instruction whose bytes b are, if b is one's.
func insOf(b [insSize]byte) api.Ins {
	i := api.Ins{
		Op:     api.Op(b[0] & opBits),
		UseImm: b[0]&immBit != 0,
		Dst:    int(b[1] >> dstAt),
		Src:    int(b[1] & srcBits),
		Off:    int(int16(b[2])<<8 | int16(b[3])),
		Imm:    int(int32(b[4])<<24 | int32(b[5])<<16 | int32(b[6])<<8 | int32(b[7])),
	}
	if fieldsOf(i.Op).any(size) {
		i.Size = 1 << (b[0] >> sizeAt)
	} else {
		i.Narrow = b[0]&narrowBit != 0
	}
	return i
}
