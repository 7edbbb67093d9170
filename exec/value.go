package exec

import (
	"barbican/api"
)

// value is what a register has: nothing, a number, or a pointer to the byte at
// n, read as a signed number.
type value struct {
	kind api.ValueKind
	n    uint64
}

// number is the Number n.
func number(n uint64) value {
	return value{kind: api.Number, n: n}
}

// points tells whether v is a pointer.
func (v value) points() bool {
	return v.kind == api.Packet || v.kind == api.Frame
}

// place is the one that is off more than that which v points at. Beyond the
// ends of 64 bits it is far from all bytes, too.
func (v value) place(off int) int64 {
	return int64(v.n) + int64(off)
}

// ask is ErrUnset, unless all of the registers' values are there.
func ask(row ...value) api.Errno {
	for _, v := range row {
		if v.kind == api.Unset {
			return api.ErrUnset
		}
	}
	return api.OK
}
