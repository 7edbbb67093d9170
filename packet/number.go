package packet

import (
	"barbican/api"
)

// sizes are how many bytes a number may have.
var sizes = [4]int{1, 2, 4, 8}

// number is a number's bytes, the highest one first. They are a packet's own.
type number []byte

// numberAt is the bytes of the number that stands in b from at on. It panics
// with an error where there is none.
func numberAt(b []byte, at int64, size int) number {
	if !isSize(size) {
		panic(api.ErrArg)
	}
	// at and size are not added, as their sum may be beyond all numbers.
	if last := int64(len(b)) - int64(size); at < 0 || at > last {
		panic(api.ErrBounds)
	}
	return number(b[at : at+int64(size)])
}

func isSize(size int) bool {
	for _, s := range sizes {
		if s == size {
			return true
		}
	}
	return false
}

// each yields the place of each byte of n, and how many bits of the number are
// below it.
func (n number) each(yield func(i, below int) bool) {
	for i := range n {
		if !yield(i, 8*(len(n)-1-i)) {
			return
		}
	}
}
