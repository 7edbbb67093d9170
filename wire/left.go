package wire

import (
	"bytes"
	"errors"
	"math"

	"barbican/api"
)

// numberSize is how many bytes a number has.
const numberSize = 8

// errUnread is what a call panics with where something can't be read.
var errUnread = errors.New("wire: bytes that can't be read")

// left is the bytes that are not read yet. Its calls panic where they can't
// read, so that what is made of several reads need not ask behind each.
type left struct {
	bytes []byte
}

// none tells whether nothing is left.
func (l *left) none() bool {
	return len(l.bytes) == 0
}

// take is the next n bytes. They share memory with what is left.
func (l *left) take(n int) []byte {
	must(0 <= n && n <= len(l.bytes))
	taken := l.bytes[:n]
	l.bytes = l.bytes[n:]
	return taken
}

// number is the number that the next bytes are.
func (l *left) number() int {
	n := uint64(0)
	for _, b := range l.take(numberSize) {
		n = n<<8 | uint64(b)
	}
	return int(n)
}

// within is the next number, which is from 0 to most.
func (l *left) within(most int) int {
	n := l.number()
	must(0 <= n && n <= most)
	return n
}

// counted is as many bytes as the number ahead of them says, in new memory.
func (l *left) counted() []byte {
	return bytes.Clone(l.take(l.number()))
}

// entry is the next entry. Each field is read by a statement of its own, as
// their order is that of the bytes.
func (l *left) entry() api.Entry {
	var e api.Entry
	e.Term = l.number()
	e.Kind = api.EntryKind(l.within(math.MaxUint8))
	e.Version = l.number()
	e.Server = l.number()
	e.Good = l.within(1) == 1
	e.Data = l.counted()
	return e
}

// must panics where it is not so.
func must(so bool) {
	if !so {
		panic(errUnread)
	}
}
