package text

import (
	"strings"

	"barbican/api"
	"barbican/ins"
)

const (
	mostDigits = 10 // of a number
	mostLabel  = 30 // bytes of a label
)

// sentence is what a line says: a label, an instruction, or nothing at all.
type sentence struct {
	label string
	ins   api.Ins
	to    string // the label that the instruction jumps to, if it goes to one
}

// reader reads a line. Its calls panic where the line does not go on as the
// language asks, so that what is made of several need not ask behind each.
type reader struct {
	tokens
	words map[string]word
	to    string
}

// read is what the line says, or ErrLine.
func read(line string, words map[string]word) (said sentence, e api.Errno) {
	defer func() {
		if recover() != nil {
			said, e = sentence{}, api.ErrLine
		}
	}()
	r := &reader{tokens: tokensOf(line), words: words}
	if r.none() {
		return sentence{}, api.OK
	}
	return r.sentence(), api.OK
}

// sentence is what all the tokens say.
func (r *reader) sentence() sentence {
	var said sentence
	first := r.take()
	if r.comes(":") {
		r.take()
		said.label = labelOf(first)
	} else {
		said.ins = r.instruction(first)
		said.to = r.to
	}
	must(r.none())
	return said
}

// instruction is the one that begins with that word.
func (r *reader) instruction(first string) api.Ins {
	w, there := r.words[first]
	must(there)
	i := w.says
	w.rest(r, &i)
	must(ins.Right(i))
	return i
}

// What stands behind the word of an instruction is read by a method for each
// kind of line.

func (r *reader) operator(i *api.Ins) {
	i.Dst = r.register()
	r.one(",")
	r.second(i)
}

func (r *reader) neg(i *api.Ins) {
	i.Dst = r.register()
}

func (r *reader) load(i *api.Ins) {
	i.Dst = r.register()
	r.one(",")
	i.Src, i.Off = r.cell()
}

func (r *reader) put(i *api.Ins) {
	i.Dst, i.Off = r.cell()
	r.one(",")
	r.second(i)
}

func (r *reader) question(i *api.Ins) {
	i.Dst = r.register()
	r.one(",")
	r.second(i)
	r.one(",")
	r.jump(i)
}

func (r *reader) jump(i *api.Ins) {
	if r.comes("+", "-") {
		i.Off = r.signed()
		return
	}
	r.to = labelOf(r.take())
}

func (r *reader) exit(*api.Ins) {}

// second reads a second part.
func (r *reader) second(i *api.Ins) {
	if strings.HasPrefix(r.next(), registerBegin) {
		i.Src = r.register()
		return
	}
	i.UseImm = true
	if r.comes("-") {
		i.Imm = r.signed()
	} else {
		i.Imm = r.number()
	}
}

// cell reads a cell: its register, and how far off it is.
func (r *reader) cell() (register, off int) {
	r.one("[")
	register = r.register()
	off = r.signed()
	r.one("]")
	return register, off
}

// register reads a register's name.
func (r *reader) register() int {
	name, found := strings.CutPrefix(r.take(), registerBegin)
	must(found)
	n := numberOf(name)
	must(n < api.Regs)
	return n
}

// signed reads a number with a sign ahead.
func (r *reader) signed() int {
	sign := r.one("+", "-")
	n := r.number()
	if sign == "-" {
		return -n
	}
	return n
}

// number reads a number.
func (r *reader) number() int {
	return numberOf(r.take())
}

// numberOf is the number that the token is.
func numberOf(token string) int {
	must(0 < len(token) && len(token) <= mostDigits)
	must(token == "0" || token[0] != '0')
	n := 0
	for _, digit := range []byte(token) {
		must(isDigit(digit))
		n = 10*n + int(digit-'0')
	}
	return n
}

// labelOf is the token, which must be a label.
func labelOf(token string) string {
	must(len(token) <= mostLabel && isLetter(token[0]))
	return token
}
