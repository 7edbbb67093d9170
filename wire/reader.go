package wire

import (
	"bytes"

	"barbican/api"
)

// Reader reads bytes.
type Reader struct {
	left
	// self is the reader itself while it is good, so that neither one that
	// nobody made nor a copy of one is taken for a good one.
	self *Reader
}

// NewReader is a reader of bytes that are as b's now.
func NewReader(b []byte) *Reader {
	r := &Reader{left: left{bytes: bytes.Clone(b)}}
	r.self = r
	return r
}

// Number is the number that the next bytes are; 0, if it can't be read.
func (r *Reader) Number() int {
	return read(r, func() int { return r.number() })
}

// Bytes is the next bytes that have their length ahead; none, if they can't be
// read.
func (r *Reader) Bytes() []byte {
	return read(r, func() []byte { return r.counted() })
}

// Entry is the next entry; a zero one, if it can't be read.
func (r *Reader) Entry() api.Entry {
	return read(r, func() api.Entry { return r.entry() })
}

// Bad tells whether something could not be read, or nobody made r.
func (r *Reader) Bad() bool {
	return r == nil || r.self != r
}

// Done tells whether all was read, and nothing was bad.
func (r *Reader) Done() bool {
	return !r.Bad() && r.none()
}

// read is what next reads of r; a zero one, if r is bad, or turns bad by it.
func read[T any](r *Reader, next func() T) (out T) {
	if r.Bad() {
		return out
	}
	defer func() {
		if recover() != nil {
			*r = Reader{}
		}
	}()
	return next()
}
