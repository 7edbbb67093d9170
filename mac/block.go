package mac

import "barbican/sha"

// blockSize is the bytes of a key's block, and the most that a key may have
// to stand in it itself.
const blockSize = 64

// block is a key's block.
type block [blockSize]byte

// blockOf is key's block.
func blockOf(key []byte) block {
	if len(key) > blockSize {
		key = sha.Sum(key)
	}
	var made block
	copy(made[:], key)
	return made
}

// under is what tells the block under a number.
func (b block) under() func(n byte) []byte {
	return func(n byte) []byte {
		turned := b // an array: the block stays, for other numbers
		for i := range turned {
			turned[i] ^= n
		}
		return turned[:]
	}
}
