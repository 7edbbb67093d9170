package frame

import (
	"bytes"

	"barbican/api"
)

// Where the parts of a frame's bytes begin: Kind stands at 0.
const (
	lengthAt = 1
	sumAt    = 5
	headSize = 9
)

// state is what the bytes that are left are.
type state int

const (
	begun state = iota // a beginning of a frame's bytes, or none: more may come
	whole              // a frame's bytes, and whatever stands behind them
	wrong              // neither
)

// left is the bytes that are not scanned yet.
type left struct {
	bytes []byte
}

// state tells what is left.
func (l *left) state() state {
	if len(l.bytes) < headSize {
		return begun
	}
	head, rest := l.bytes[:headSize], l.bytes[headSize:]
	length := l.length()
	switch {
	case length > api.MaxFrame:
		return wrong
	case length > len(rest):
		return begun
	case sumOf(head[:sumAt], rest[:length]) != wordOf(head[sumAt:]):
		return wrong
	}
	return whole
}

// length is how many Data the head says, which must be there.
func (l *left) length() int {
	return int(wordOf(l.bytes[lengthAt:sumAt]))
}

// take is the next frame, which must be whole. Its Data is new memory.
func (l *left) take() Frame {
	end := headSize + l.length()
	f := Frame{Kind: int(l.bytes[0]), Data: bytes.Clone(l.bytes[headSize:end])}
	l.bytes = l.bytes[end:]
	return f
}

// scan goes through bytes frame by frame.
type scan struct {
	left
	used int // how many bytes the frames have that were taken
}

// frames yields those that are whole, up to the first one that is not.
func (s *scan) frames(yield func(Frame) bool) {
	for s.state() == whole {
		f := s.take()
		s.used += f.size()
		if !yield(f) {
			return
		}
	}
}
