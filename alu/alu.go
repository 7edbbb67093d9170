// Package alu is layer 1: see shared/doc/01-alu.md.
package alu

import (
	"barbican/api"
)

// Do tells what op makes of a and b, or ErrArg, ErrDivide.
func Do(op api.Op, narrow bool, a, b uint64) (uint64, api.Errno) {
	do := operator(op)
	if do == nil {
		return 0, api.ErrArg
	}
	p := pairOf(narrow, a, b)
	if p.b == 0 && (op == api.Div || op == api.Mod) {
		return 0, api.ErrDivide
	}
	return do(p) & p.most, api.OK
}

// Is tells whether op says yes of a and b, or ErrArg.
func Is(op api.Op, narrow bool, a, b uint64) (bool, api.Errno) {
	is := question(op)
	if is == nil {
		return false, api.ErrArg
	}
	return is(pairOf(narrow, a, b)), api.OK
}

// Wide is n modulo 2^64.
func Wide(n int) uint64 {
	return uint64(n)
}
