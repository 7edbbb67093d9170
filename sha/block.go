package sha

import "math/bits"

// blockSize is a block's bytes, countSize those that tell how many bits a
// message's bytes had.
const (
	blockSize = 64
	countSize = 8
)

// behind is what a state becomes by whole blocks.
func behind(state [8]uint32, blocks []byte) [8]uint32 {
	for ; len(blocks) >= blockSize; blocks = blocks[blockSize:] {
		state = mixed(state, wordsOf(blocks[:blockSize]))
	}
	return state
}

// wordsOf is the 64 words that a block makes.
func wordsOf(block []byte) [64]uint32 {
	var w [64]uint32
	for t := range 16 {
		b := block[4*t : 4*t+4]
		w[t] = uint32(b[0])<<24 | uint32(b[1])<<16 | uint32(b[2])<<8 | uint32(b[3])
	}
	for t := 16; t < len(w); t++ {
		x, y := w[t-15], w[t-2]
		s0 := turned(x, 7) ^ turned(x, 18) ^ x>>3
		s1 := turned(y, 17) ^ turned(y, 19) ^ y>>10
		w[t] = w[t-16] + s0 + w[t-7] + s1
	}
	return w
}

// mixed is what a state becomes by one block's words.
func mixed(state [8]uint32, words [64]uint32) [8]uint32 {
	now := state // the words a to h
	for t, w := range words {
		a, b, c := now[0], now[1], now[2]
		e, f, g := now[4], now[5], now[6]
		ch := (e & f) ^ (^e & g)
		maj := (a & b) ^ (a & c) ^ (b & c)
		one := now[7] + (turned(e, 6) ^ turned(e, 11) ^ turned(e, 25)) + ch + constants[t] + w
		two := (turned(a, 2) ^ turned(a, 13) ^ turned(a, 22)) + maj
		copy(now[1:], now[:7])
		now[4] += one
		now[0] = one + two
	}
	for i, w := range now {
		state[i] += w
	}
	return state
}

// turned is a word moved down by n bits, those that fall out coming in above.
func turned(word uint32, n int) uint32 {
	return bits.RotateLeft32(word, -n)
}
