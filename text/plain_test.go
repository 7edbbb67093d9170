package text

import (
	"math/rand"
	"regexp"
	"slices"
	"strconv"
	"strings"

	"barbican/api"
	"barbican/ins"
)

// The chapter's words once more, by patterns, to hold the package against.

// opNames and questionNames are in the order of their Ops.
func opNames() []string {
	return strings.Fields("add sub mul div mod and or xor shl shr sar mov")
}

func questionNames() []string {
	return strings.Fields("jeq jne jgt jge jlt jle jsgt jsge jslt jsle jset")
}

// patterns are those of a whole line. A line's parts in <> stand for: any blanks,
// some blanks, and those of the language.
type patterns struct {
	label, op, neg, load, put, jump, question, exit, empty *regexp.Regexp
}

func newPatterns() patterns {
	parts := strings.NewReplacer(
		" ", `[\t\r ]*`,
		"_", `[\t\r ]+`,
		"<reg>", `r(10|[0-9])`,
		"<second>", `(?:r(10|[0-9])|(-?)[\t\r ]*(0|[1-9][0-9]{0,9}))`,
		"<cell>", `\[[\t\r ]*r(10|[0-9])[\t\r ]*([+-])[\t\r ]*(0|[1-9][0-9]{0,9})[\t\r ]*\]`,
		"<signed>", `([+-])[\t\r ]*(0|[1-9][0-9]{0,9})`,
		"<label>", `([a-z][a-z0-9_]{0,29})`,
		"<op>", "("+strings.Join(opNames(), "|")+")",
		"<question>", "("+strings.Join(questionNames(), "|")+")",
		"<narrow>", "(32)?",
		"<size>", "([1248])",
	)
	line := func(s string) *regexp.Regexp { return regexp.MustCompile(`\A` + parts.Replace(s) + `\z`) }
	return patterns{
		label:    line(" <label> : "),
		op:       line(" <op><narrow>_<reg> , <second> "),
		neg:      line(" neg<narrow>_<reg> "),
		load:     line(" load<size>_<reg> , <cell> "),
		put:      line(" put<size> <cell> , <second> "),
		jump:     line(" jump(?: <signed>|_<label>) "),
		question: line(" <question><narrow>_<reg> , <second> , (?:<signed>|<label>) "),
		exit:     line(" exit "),
		empty:    line(" "),
	}
}

// plainNumber is the number that the texts say, the first one its sign.
func plainNumber(sign, digits string) int {
	n, err := strconv.Atoi(sign + digits)
	if err != nil {
		panic(err)
	}
	return n
}

// plainSecond is i with the second part that the texts say: Src, or a sign and a
// number.
func plainSecond(i api.Ins, l []string) api.Ins {
	if l[0] != "" {
		i.Src = plainNumber("", l[0])
		return i
	}
	i.UseImm, i.Imm = true, plainNumber(l[1], l[2])
	return i
}

// plainTo is i with the Off that the texts say, or the label.
func plainTo(i api.Ins, l []string) (api.Ins, string) {
	if l[2] == "" {
		i.Off = plainNumber(l[0], l[1])
	}
	return i, l[2]
}

// plainLine is the instruction that the line says, and the label that it jumps
// to.
func (p patterns) plainLine(line string) (i api.Ins, to string, ok bool) {
	if l := p.op.FindStringSubmatch(line); l != nil {
		i = api.Ins{Op: api.Add + api.Op(slices.Index(opNames(), l[1])), Narrow: l[2] != "", Dst: plainNumber("", l[3])}
		i = plainSecond(i, l[4:])
	} else if l := p.neg.FindStringSubmatch(line); l != nil {
		i = api.Ins{Op: api.Neg, Narrow: l[1] != "", Dst: plainNumber("", l[2])}
	} else if l := p.load.FindStringSubmatch(line); l != nil {
		i = api.Ins{Op: api.Load, Size: plainNumber("", l[1]), Dst: plainNumber("", l[2]), Src: plainNumber("", l[3]), Off: plainNumber(l[4], l[5])}
	} else if l := p.put.FindStringSubmatch(line); l != nil {
		i = api.Ins{Op: api.Put, Size: plainNumber("", l[1]), Dst: plainNumber("", l[2]), Off: plainNumber(l[3], l[4])}
		i = plainSecond(i, l[5:])
	} else if l := p.jump.FindStringSubmatch(line); l != nil {
		i, to = plainTo(api.Ins{Op: api.Jump}, l[1:])
	} else if l := p.question.FindStringSubmatch(line); l != nil {
		i = api.Ins{Op: api.Jeq + api.Op(slices.Index(questionNames(), l[1])), Narrow: l[2] != "", Dst: plainNumber("", l[3])}
		i, to = plainTo(plainSecond(i, l[4:]), l[7:])
	} else if p.exit.MatchString(line) {
		i = api.Ins{Op: api.Exit}
	}
	return i, to, ins.Right(i)
}

// parse is P7.1.
func (p patterns) parse(s string) ([]api.Ins, api.Fault) {
	if len(s) > 1<<18 {
		return nil, api.Fault{Err: api.ErrLong}
	}
	var list []api.Ins
	var jumps [][2]int // the place, the line
	var goals []string
	labels := map[string]int{}
	for k, line := range strings.Split(s, "\n") {
		line = strings.SplitN(line, "#", 2)[0]
		if p.empty.MatchString(line) {
			continue
		}
		if l := p.label.FindStringSubmatch(line); l != nil {
			if _, there := labels[l[1]]; there {
				return nil, api.Fault{Err: api.ErrLabel, At: k + 1}
			}
			labels[l[1]] = len(list)
			continue
		}
		i, to, ok := p.plainLine(line)
		if !ok {
			return nil, api.Fault{Err: api.ErrLine, At: k + 1}
		}
		if len(list) == 4096 {
			return nil, api.Fault{Err: api.ErrLong, At: k + 1}
		}
		if to != "" {
			jumps, goals = append(jumps, [2]int{len(list), k + 1}), append(goals, to)
		}
		list = append(list, i)
	}
	for k, j := range jumps {
		at, there := labels[goals[k]]
		if !there {
			return nil, api.Fault{Err: api.ErrLabel, At: j[1]}
		}
		list[j[0]].Off = at - j[0] - 1
	}
	return list, api.Fault{}
}

// plainShow is the line of i, which is right, by P7.2.
func plainShow(i api.Ins) string {
	narrow := ""
	if i.Narrow {
		narrow = "32"
	}
	size := strconv.Itoa(i.Size)
	dst, second := "r"+strconv.Itoa(i.Dst), "r"+strconv.Itoa(i.Src)
	cell := func(register int) string {
		if i.Off < 0 {
			return "[r" + strconv.Itoa(register) + " - " + strconv.Itoa(-i.Off) + "]"
		}
		return "[r" + strconv.Itoa(register) + " + " + strconv.Itoa(i.Off) + "]"
	}
	if i.UseImm {
		second = strconv.Itoa(i.Imm)
	}
	off := strconv.Itoa(i.Off)
	if i.Off >= 0 {
		off = "+" + off
	}
	switch op := i.Op; {
	case op <= api.Mov:
		return opNames()[op-api.Add] + narrow + " " + dst + ", " + second + "\n"
	case op == api.Neg:
		return "neg" + narrow + " " + dst + "\n"
	case op == api.Load:
		return "load" + size + " " + dst + ", " + cell(i.Src) + "\n"
	case op == api.Put:
		return "put" + size + " " + cell(i.Dst) + ", " + second + "\n"
	case op == api.Jump:
		return "jump " + off + "\n"
	case op <= api.Jset:
		return questionNames()[op-api.Jeq] + narrow + " " + dst + ", " + second + ", " + off + "\n"
	}
	return "exit\n"
}

// drawRight is a right instruction of any kind, its numbers often at their ends.
func drawRight(r *rand.Rand) api.Ins {
	i := api.Ins{Op: api.Op(1 + r.Intn(28))}
	number := func(bits int) int {
		n := []int{0, 1, -1, 1<<bits - 1, -1 << bits, (r.Intn(2<<bits) - 1<<bits) >> r.Intn(bits)}
		return n[r.Intn(len(n))]
	}
	op := i.Op
	if op <= api.Load {
		i.Dst = r.Intn(10)
	} else if op != api.Jump && op != api.Exit {
		i.Dst = r.Intn(11)
	}
	second := op <= api.Mov || op == api.Put || op >= api.Jeq && op <= api.Jset
	if second && r.Intn(2) == 0 {
		i.UseImm, i.Imm = true, number(31)
	} else if second || op == api.Load {
		i.Src = r.Intn(11)
	}
	if op >= api.Load && op <= api.Jset {
		i.Off = number(15)
	}
	if op == api.Load || op == api.Put {
		i.Size = 1 << r.Intn(4)
	}
	if op <= api.Neg || op >= api.Jeq && op <= api.Jset {
		i.Narrow = r.Intn(2) == 0
	}
	if !ins.Right(i) {
		panic("drawn, and not right")
	}
	return i
}

// drawList is so many right instructions.
func drawList(r *rand.Rand, n int) []api.Ins {
	l := make([]api.Ins, n)
	for k := range l {
		l[k] = drawRight(r)
	}
	return l
}
