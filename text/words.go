package text

import (
	"strconv"

	"barbican/api"
)

const (
	registerBegin = "r"
	narrowEnd     = "32"
)

// names are the Ops' words, without what stands right behind them.
var names = [api.Exit + 1]string{
	api.Add: "add", api.Sub: "sub", api.Mul: "mul", api.Div: "div", api.Mod: "mod", api.And: "and",
	api.Or: "or", api.Xor: "xor", api.Shl: "shl", api.Shr: "shr", api.Sar: "sar", api.Mov: "mov",
	api.Neg: "neg", api.Load: "load", api.Put: "put", api.Jump: "jump",
	api.Jeq: "jeq", api.Jne: "jne", api.Jgt: "jgt", api.Jge: "jge", api.Jlt: "jlt", api.Jle: "jle",
	api.Jsgt: "jsgt", api.Jsge: "jsge", api.Jslt: "jslt", api.Jsle: "jsle", api.Jset: "jset",
	api.Exit: "exit",
}

// word is what a line's first word says by itself, and what reads the rest.
type word struct {
	says api.Ins
	rest func(*reader, *api.Ins)
}

// words are all that a line may begin with, labels left out.
func words() map[string]word {
	all := map[string]word{}
	put := func(says api.Ins, rest func(*reader, *api.Ins)) {
		all[wordOf(says)] = word{says, rest}
	}
	both := func(op api.Op, rest func(*reader, *api.Ins)) {
		put(api.Ins{Op: op}, rest)
		put(api.Ins{Op: op, Narrow: true}, rest)
	}
	for op := api.Add; op <= api.Mov; op++ {
		both(op, (*reader).operator)
	}
	both(api.Neg, (*reader).neg)
	for size := 1; size <= 8; size *= 2 {
		put(api.Ins{Op: api.Load, Size: size}, (*reader).load)
		put(api.Ins{Op: api.Put, Size: size}, (*reader).put)
	}
	put(api.Ins{Op: api.Jump}, (*reader).jump)
	for op := api.Jeq; op <= api.Jset; op++ {
		both(op, (*reader).question)
	}
	put(api.Ins{Op: api.Exit}, (*reader).exit)
	return all
}

// wordOf is the word of an instruction, whose Op is one.
func wordOf(i api.Ins) string {
	name := names[i.Op]
	if i.Narrow {
		name += narrowEnd
	}
	if i.Size > 0 {
		name += strconv.Itoa(i.Size)
	}
	return name
}
