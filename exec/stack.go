package exec

import (
	"slices"

	"barbican/api"
	"barbican/packet"
)

// stack is the bytes of which the last one stands at the place -1, and whether
// each of them is set.
type stack struct {
	bytes [api.Stack]byte
	set   [api.Stack]bool
}

// get is the number at that place, or ErrBounds, ErrUnset.
func (s *stack) get(place int64, size int) (uint64, api.Errno) {
	at := place + api.Stack
	n, e := packet.Get(s.bytes[:], at, size)
	if e != api.OK {
		return 0, e
	}
	if slices.Contains(s.set[at:at+int64(size)], false) {
		return 0, api.ErrUnset
	}
	return n, api.OK
}

// put makes n, cut to its size, the number at that place, or tells ErrBounds.
func (s *stack) put(place int64, size int, n uint64) api.Errno {
	at := place + api.Stack
	if e := packet.Set(s.bytes[:], at, size, n); e != api.OK {
		return e
	}
	for i := range int64(size) {
		s.set[at+i] = true
	}
	return api.OK
}
