package alu

import (
	"barbican/api"
)

// The tables are parted so that none has more than eight rows: a map of that
// size, asked where it is made, costs no memory, and Do and Is are asked for
// each step of a filter.

// operator is what op, one from Add to Neg, does; nil of another one.
func operator(op api.Op) func(pair) uint64 {
	if do := arithmetic(op); do != nil {
		return do
	}
	return bitwise(op)
}

// question is what op, one from Jeq to Jset, asks; nil of another one.
func question(op api.Op) func(pair) bool {
	if is := plain(op); is != nil {
		return is
	}
	return ordered(op)
}

// arithmetic has those that take a number as one. Div and Mod do not ask
// whether b is 0: Do has asked.
func arithmetic(op api.Op) func(pair) uint64 {
	return map[api.Op]func(pair) uint64{
		api.Add: func(p pair) uint64 { return p.a + p.b },
		api.Sub: func(p pair) uint64 { return p.a - p.b },
		api.Mul: func(p pair) uint64 { return p.a * p.b },
		api.Div: func(p pair) uint64 { return p.a / p.b },
		api.Mod: func(p pair) uint64 { return p.a % p.b },
		api.Mov: func(p pair) uint64 { return p.b },
		api.Neg: func(p pair) uint64 { return -p.a },
	}[op]
}

// bitwise has those that take a number as its bits.
func bitwise(op api.Op) func(pair) uint64 {
	return map[api.Op]func(pair) uint64{
		api.And: func(p pair) uint64 { return p.a & p.b },
		api.Or:  func(p pair) uint64 { return p.a | p.b },
		api.Xor: func(p pair) uint64 { return p.a ^ p.b },
		api.Shl: func(p pair) uint64 { return p.a << p.move() },
		api.Shr: func(p pair) uint64 { return p.a >> p.move() },
		api.Sar: func(p pair) uint64 { return uint64(p.signedA >> p.move()) },
	}[op]
}

// plain has the questions that read numbers from 0 on.
func plain(op api.Op) func(pair) bool {
	return map[api.Op]func(pair) bool{
		api.Jeq:  func(p pair) bool { return p.a == p.b },
		api.Jne:  func(p pair) bool { return p.a != p.b },
		api.Jgt:  func(p pair) bool { return p.a > p.b },
		api.Jge:  func(p pair) bool { return p.a >= p.b },
		api.Jlt:  func(p pair) bool { return p.a < p.b },
		api.Jle:  func(p pair) bool { return p.a <= p.b },
		api.Jset: func(p pair) bool { return p.a&p.b != 0 },
	}[op]
}

// ordered has the questions that read numbers signed.
func ordered(op api.Op) func(pair) bool {
	return map[api.Op]func(pair) bool{
		api.Jsgt: func(p pair) bool { return p.signedA > p.signedB },
		api.Jsge: func(p pair) bool { return p.signedA >= p.signedB },
		api.Jslt: func(p pair) bool { return p.signedA < p.signedB },
		api.Jsle: func(p pair) bool { return p.signedA <= p.signedB },
	}[op]
}
