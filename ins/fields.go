package ins

import (
	"math"

	"barbican/api"
)

// fields are flags that tell what an instruction of a kind has.
type fields uint8

const (
	kind     fields = 1 << iota // there is such a kind: Exit has nothing else
	target                      // Dst, which is written to
	register                    // Dst, which is read alone
	source                      // Src
	second                      // Imm, with UseImm, or Src
	far                         // Off
	size                        // Size
	narrow                      // Narrow
)

// The last registers that may be read, and written to: r10 is the stack's end
// for good.
const (
	lastRegister = api.Regs - 1
	lastTarget   = lastRegister - 1
)

// fieldsOf is what instructions of op have; nothing at all, if op is no kind.
func fieldsOf(op api.Op) fields {
	switch {
	case api.Add <= op && op <= api.Mov:
		return kind | target | second | narrow
	case op == api.Neg:
		return kind | target | narrow
	case op == api.Load:
		return kind | target | source | far | size
	case op == api.Put:
		return kind | register | far | second | size
	case op == api.Jump:
		return kind | far
	case api.Jeq <= op && op <= api.Jset:
		return kind | register | second | far | narrow
	case op == api.Exit:
		return kind
	}
	return 0
}

// any tells whether one of the flags is among f.
func (f fields) any(flags fields) bool {
	return f&flags != 0
}

// only is i with those fields alone that f tells of.
func (f fields) only(i api.Ins) api.Ins {
	kept := api.Ins{Op: i.Op}
	if f.any(target | register) {
		kept.Dst = i.Dst
	}
	if f.any(second) && i.UseImm {
		kept.UseImm, kept.Imm = true, i.Imm
	} else if f.any(second | source) {
		kept.Src = i.Src
	}
	if f.any(far) {
		kept.Off = i.Off
	}
	if f.any(size) {
		kept.Size = i.Size
	}
	if f.any(narrow) {
		kept.Narrow = i.Narrow
	}
	return kept
}

// fit tells whether i's numbers are those that its kind may have. A 0 stands
// for what it has not: that is within all ends.
func (f fields) fit(i api.Ins) bool {
	last := lastRegister
	if f.any(target) {
		last = lastTarget
	}
	return within(i.Dst, 0, last) &&
		within(i.Src, 0, lastRegister) &&
		within(i.Off, math.MinInt16, math.MaxInt16) &&
		within(i.Imm, math.MinInt32, math.MaxInt32) &&
		(isSize(i.Size) || !f.any(size))
}

func within(n, least, most int) bool {
	return least <= n && n <= most
}

func isSize(n int) bool {
	return n == 1 || n == 2 || n == 4 || n == 8
}
