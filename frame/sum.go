package frame

// turns are the bits that are turned in a sum's word where a 1 falls out of it.
const turns = 0x82F63B78

// Sum is the sum of b: its CRC-32C.
func Sum(b []byte) uint32 {
	return sumOf(b)
}

// sumOf is the sum of the parts, one behind the other. A frame's sum is of
// bytes that do not stand together, and they need not be copied for it.
func sumOf(parts ...[]byte) uint32 {
	word := ^uint32(0)
	for _, part := range parts {
		for _, b := range part {
			word = behind(word, b)
		}
	}
	return ^word
}

// behind is what a sum's word becomes by one more byte.
func behind(word uint32, b byte) uint32 {
	word ^= uint32(b)
	for range 8 {
		fell := word & 1
		word = word>>1 ^ turns*fell
	}
	return word
}

// bytesOf is the four bytes of a word, the highest first.
func bytesOf(word uint32) []byte {
	return []byte{byte(word >> 24), byte(word >> 16), byte(word >> 8), byte(word)}
}

// wordOf is the word that four bytes are, the highest first.
func wordOf(b []byte) uint32 {
	return uint32(b[0])<<24 | uint32(b[1])<<16 | uint32(b[2])<<8 | uint32(b[3])
}
