package text

import (
	"math"
	"math/rand"
	"slices"
	"strconv"
	"strings"
	"sync"
	"testing"

	"barbican/api"
	"barbican/ins"
)

// says fails, unless s is parsed as just those instructions.
func says(t *testing.T, s string, want ...api.Ins) {
	t.Helper()
	got, f := Parse(s)
	if f != (api.Fault{}) || !slices.Equal(got, want) {
		t.Errorf("Parse(%.60q): %v, %+v; not %+v", s, f, got[:min(9, len(got))], want[:min(9, len(want))])
	}
}

// fails fails, unless s is parsed with that fault, and nothing beside.
func fails(t *testing.T, s string, e api.Errno, at int) {
	t.Helper()
	if l, f := Parse(s); f != (api.Fault{Err: e, At: at}) || len(l) != 0 {
		t.Errorf("Parse(%.60q): %d at %d, %d instructions; not %d at %d", s, f.Err, f.At, len(l), e, at)
	}
}

// alike fails, unless s is parsed as the patterns say; it tells whether there
// was no fault.
func (p patterns) alike(t *testing.T, s string) bool {
	t.Helper()
	want, fault := p.parse(s)
	got, f := Parse(s)
	if f != fault || !slices.Equal(got, want) {
		t.Fatalf("Parse(%.200q): %v, %+v; not %v, %+v", s, f, got[:min(9, len(got))], fault, want[:min(9, len(want))])
	}
	return f.Err == api.OK
}

// P7.1, by hand: each line of the language.
func TestEachLine(t *testing.T) {
	for k, name := range opNames() {
		op := api.Add + api.Op(k)
		says(t, name+" r1, r2", api.Ins{Op: op, Dst: 1, Src: 2})
		says(t, name+"32 r9, r10", api.Ins{Op: op, Narrow: true, Dst: 9, Src: 10})
		says(t, name+" r0, 7", api.Ins{Op: op, UseImm: true, Imm: 7})
		says(t, name+"32 r0, -7", api.Ins{Op: op, Narrow: true, UseImm: true, Imm: -7})
		fails(t, name+" r10, 7", api.ErrLine, 1)
	}
	for k, name := range questionNames() {
		op := api.Jeq + api.Op(k)
		says(t, name+" r10, r2, +3", api.Ins{Op: op, Dst: 10, Src: 2, Off: 3})
		says(t, name+"32 r1, r10, -3", api.Ins{Op: op, Narrow: true, Dst: 1, Src: 10, Off: -3})
		says(t, name+" r0, 7, a\na:", api.Ins{Op: op, UseImm: true, Imm: 7})
		says(t, "a:\n"+name+"32 r0, -7, a", api.Ins{Op: op, Narrow: true, UseImm: true, Imm: -7, Off: -1})
		fails(t, name+" r1, r2", api.ErrLine, 1)
		fails(t, name+" r1, r2, 3", api.ErrLine, 1)
	}
	for _, size := range []int{1, 2, 4, 8} {
		n := strconv.Itoa(size)
		says(t, "load"+n+" r3, [r1 + 12]", api.Ins{Op: api.Load, Dst: 3, Src: 1, Off: 12, Size: size})
		says(t, "load"+n+" r9, [r10 - 12]", api.Ins{Op: api.Load, Dst: 9, Src: 10, Off: -12, Size: size})
		says(t, "put"+n+" [r10 - 8], r3", api.Ins{Op: api.Put, Dst: 10, Off: -8, Src: 3, Size: size})
		says(t, "put"+n+" [r0 + 8], -3", api.Ins{Op: api.Put, Off: 8, UseImm: true, Imm: -3, Size: size})
		fails(t, "load"+n+" r10, [r1 + 12]", api.ErrLine, 1)
		fails(t, "load"+n+" r1, 12", api.ErrLine, 1)
		fails(t, "load"+n+" r1, r2", api.ErrLine, 1)
		fails(t, "put"+n+" r1, [r1 + 12]", api.ErrLine, 1)
	}
	says(t, "neg r9", api.Ins{Op: api.Neg, Dst: 9})
	says(t, "neg32 r0", api.Ins{Op: api.Neg, Narrow: true})
	fails(t, "neg r10", api.ErrLine, 1)
	says(t, "jump +5", api.Ins{Op: api.Jump, Off: 5})
	says(t, "jump -5", api.Ins{Op: api.Jump, Off: -5})
	says(t, "jump end\nend:", api.Ins{Op: api.Jump})
	says(t, "exit", api.Ins{Op: api.Exit})
	says(t, "end:")
}

// The chapter's example 1.
func TestExample(t *testing.T) {
	says(t, "mov r0, 1\njeq32 r2, -5, end\nload2 r3, [r1 + 12]\nput8 [r10 - 8], r3\nend:\nexit",
		api.Ins{Op: api.Mov, UseImm: true, Imm: 1},
		api.Ins{Op: api.Jeq, Narrow: true, Dst: 2, UseImm: true, Imm: -5, Off: 2},
		api.Ins{Op: api.Load, Dst: 3, Src: 1, Off: 12, Size: 2},
		api.Ins{Op: api.Put, Dst: 10, Off: -8, Src: 3, Size: 8},
		api.Ins{Op: api.Exit})
	fails(t, "jump here", api.ErrLabel, 1)
	fails(t, "add r10, 1", api.ErrLine, 1)
	isShown(t, "jeq32 r2, -5, +2\n", api.Ins{Op: api.Jeq, Narrow: true, Dst: 2, UseImm: true, Imm: -5, Off: 2})
}

// P7.1: words that the language has not, or that are not narrow, or have no
// size, or another one.
func TestNoWords(t *testing.T) {
	for _, word := range strings.Fields("Mov MOV movs mo addd move mov16 mov64 mov032 mov3 mov2 mov323 32mov mov_32 add320 nop neg16 negate exit32 exits ret jump32 jump1 jmp ja loads load load0 load3 load5 load6 load7 load9 load16 load32 load132 load08 put put3 put32 put16 put832 store8 jeq16 jeq3 jeqq jeq3232 jset8 je label r0 0 1 32 _ __") {
		for _, rest := range []string{"", " r1", " r1, r2", " r1, 2", " r1, [r2 + 3]", " [r2 + 3], r1", " +1", " a", " r1, r2, +1", " r1, r2, a"} {
			fails(t, "a:\n"+word+rest, api.ErrLine, 2)
		}
	}
	p := newPatterns()
	for _, name := range append(append(opNames(), questionNames()...), "neg", "load", "put", "jump", "exit") {
		for _, end := range []string{"", "0", "1", "2", "3", "4", "5", "8", "9", "16", "32", "64", "132", "232", "832", "321", "328", "_", "x"} {
			for _, rest := range []string{"", " r1", " r1, r2", " r1, [r2 + 3]", " [r2 + 3], r1", " +1", " r1, r2, +1"} {
				p.alike(t, name+end+rest)
				p.alike(t, name+" "+end+rest)
			}
		}
	}
}

// P7.1: registers are r0 to r10.
func TestRegisters(t *testing.T) {
	for n := range 11 {
		name := "r" + strconv.Itoa(n)
		says(t, "mov r1, "+name, api.Ins{Op: api.Mov, Dst: 1, Src: n})
		says(t, "load1 r1, ["+name+" + 0]", api.Ins{Op: api.Load, Dst: 1, Src: n, Size: 1})
		says(t, "put1 ["+name+" + 0], r2", api.Ins{Op: api.Put, Dst: n, Src: 2, Size: 1})
		says(t, "jne "+name+", r1, +0", api.Ins{Op: api.Jne, Dst: n, Src: 1})
		if n < 10 {
			says(t, "mov "+name+", r1", api.Ins{Op: api.Mov, Dst: n, Src: 1})
		}
	}
	for _, name := range strings.Fields("r r11 r12 r19 r20 r99 r100 r00 r01 r010 r1_ r_1 r1x R1 x1 1 10 rr1 r4294967296 r18446744073709551616 r4294967297 rx -r1 r-1 r+1 +1 [r1] fp") {
		for _, s := range []string{"mov " + name + ", 1", "neg " + name, "load1 r1, [" + name + " + 0]", "load1 " + name + ", [r1 + 0]", "put1 [" + name + " + 0], r2", "jne " + name + ", r1, +0"} {
			fails(t, s, api.ErrLine, 1)
		}
		if name != "1" && name != "10" {
			fails(t, "mov r1, "+name, api.ErrLine, 1)
			fails(t, "put1 [r1 + 0], "+name, api.ErrLine, 1)
			fails(t, "jne r1, "+name+", +0", api.ErrLine, 1)
		}
	}
	fails(t, "mov r 1, 1", api.ErrLine, 1)
	fails(t, "mov r1, r 1", api.ErrLine, 1)
}

// P7.1: numbers at their ends and one past them, with each sign, with too many
// digits, with a 0 ahead, and words that are none.
func TestNumbers(t *testing.T) {
	for s, want := range map[string]int{"0": 0, "-0": 0, "- 0": 0, "1": 1, "9": 9, "10": 10, "-1": -1, "-\t1": -1, "100": 100, "2147483647": math.MaxInt32, "-2147483647": -math.MaxInt32, "-2147483648": math.MinInt32, "1000000000": 1000000000} {
		says(t, "mov r1, "+s, api.Ins{Op: api.Mov, Dst: 1, UseImm: true, Imm: want})
		says(t, "put2 [r1 + 0], "+s, api.Ins{Op: api.Put, Dst: 1, UseImm: true, Imm: want, Size: 2})
		says(t, "jle r1, "+s+", +0", api.Ins{Op: api.Jle, Dst: 1, UseImm: true, Imm: want})
	}
	for s, want := range map[string]int{"+0": 0, "-0": 0, "+ 0": 0, "- 1": -1, "+1": 1, "+32767": math.MaxInt16, "-32767": -math.MaxInt16, "-32768": math.MinInt16} {
		says(t, "jump "+s, api.Ins{Op: api.Jump, Off: want})
		says(t, "jle r1, r2, "+s, api.Ins{Op: api.Jle, Dst: 1, Src: 2, Off: want})
		says(t, "load4 r1, [r2 "+s+"]", api.Ins{Op: api.Load, Dst: 1, Src: 2, Off: want, Size: 4})
		says(t, "put4 [r1"+s+"], r2", api.Ins{Op: api.Put, Dst: 1, Src: 2, Off: want, Size: 4})
	}
	for _, s := range []string{"2147483648", "-2147483649", "4294967295", "4294967296", "4294967297", "-4294967296", "9999999999", "-9999999999"} {
		fails(t, "mov r1, "+s, api.ErrLine, 1)
		fails(t, "put2 [r1 + 0], "+s, api.ErrLine, 1)
		fails(t, "jle r1, "+s+", +0", api.ErrLine, 1)
	}
	for _, s := range []string{"+32768", "-32769", "+65535", "+65536", "-65536", "+4294967296", "+9999999999", "-9999999999"} {
		for _, line := range []string{"jump " + s, "jle r1, r2, " + s, "load4 r1, [r2 " + s + "]", "put4 [r1 " + s + "], r2"} {
			fails(t, line, api.ErrLine, 1)
		}
	}
	for _, s := range []string{"00", "01", "007", "0000000000", "0000000001", "00000000001", "12345678901", "10000000000", "18446744073709551617", "18446744073709551616", strings.Repeat("9", 400), "0x1", "1x", "1_0", "_1", "1e3", "x", "", "0_", "32r", "1 2", "- 1", "+1", "1.0", "1-", "١"} {
		for _, line := range []string{"jump +" + s, "jump -" + s, "jle r1, r2, -" + s, "load4 r1, [r2 + " + s + "]", "put4 [r1 - " + s + "], r2", "mov r1, -" + s, "jle r1, -" + s + ", +0"} {
			fails(t, line, api.ErrLine, 1)
		}
		if s != "- 1" {
			fails(t, "mov r1, "+s, api.ErrLine, 1)
			fails(t, "put1 [r1 + 0], "+s, api.ErrLine, 1)
		}
	}
	for _, s := range []string{"jump 5", "jump 0", "load1 r1, [r1]", "load1 r1, [r1 5]", "load1 r1, [r1 + -5]", "load1 r1, [r1 - -5]", "mov r1, +5", "mov r1, --5", "jle r1, +5, +0", "jle r1, 5, 0", "load1 r1, [r1 + r2]", "load1 r1, [5 + r1]", "jump ++1"} {
		fails(t, s, api.ErrLine, 1)
	}
}

// P7.1: what a label may be, and what may not.
func TestLabels(t *testing.T) {
	longest := "z" + strings.Repeat("_9a", 9) + "xy"
	if len(longest) != 30 {
		t.Fatal(len(longest))
	}
	for _, label := range []string{"a", "z", "a0", "a_", "r", "r0", "r10", "r11", "exit", "jump", "mov", "mov32", "load8", "end_1", "x32", longest} {
		says(t, label+":\njump "+label, api.Ins{Op: api.Jump, Off: -1})
		says(t, "jump "+label+"\n"+label+" :", api.Ins{Op: api.Jump})
		says(t, "jset r1, 2, "+label+"\n\t"+label+"\t:\t", api.Ins{Op: api.Jset, Dst: 1, UseImm: true, Imm: 2})
		fails(t, label+":\n"+label+":", api.ErrLabel, 2)
		fails(t, "jump "+label, api.ErrLabel, 1)
	}
	for _, label := range []string{"0", "1a", "_a", "_", "A", "aB", "a.b", "a-b", "a b", "ä", "a\x80", "-a", "+a", ":a", "a:", longest + "a", longest + longest, strings.Repeat("a", 1000)} {
		fails(t, label+":", api.ErrLine, 1)
		fails(t, "exit\njump "+label, api.ErrLine, 2)
		fails(t, "exit\njset r1, 2, "+label, api.ErrLine, 2)
	}
	for _, s := range []string{"a: exit", "a: b:", "a:exit", "a::", ":", "::", ": a", "a", "exit a:", "jump a:", "jump", "jump a b", "jump a, b", "jump ::", "jump [a]", "jump +a", "jump -a"} {
		fails(t, "exit\n"+s, api.ErrLine, 2)
	}
}

// P7.1: where labels stand: ahead of all, behind all, many at one place, behind
// empty lines; the same text in another place of a line is none.
func TestLabelsStand(t *testing.T) {
	says(t, "a:\n\n#a:\nb:\njump a\nc:\njump b\njump c\njump d\njump e\nd:\n  \ne:# d:\n",
		api.Ins{Op: api.Jump, Off: -1}, api.Ins{Op: api.Jump, Off: -2}, api.Ins{Op: api.Jump, Off: -2}, api.Ins{Op: api.Jump, Off: 1}, api.Ins{Op: api.Jump})
	says(t, "a:\nb:\nc:")
	says(t, "jump :\njump jump", api.Ins{Op: api.Jump, Off: -1})
	fails(t, "exit\njump a # a:\n# a:\n", api.ErrLabel, 2)
	fails(t, "jump a\nab:\nb:\na_:\naa:", api.ErrLabel, 1)
	fails(t, "a:\n\n# a\na:", api.ErrLabel, 4)
	fails(t, "a:\nb:\nexit\nb:\na:", api.ErrLabel, 4)
}

// P7.1: the first fault of the first time through goes ahead of those of the
// second; of each time through the first line's goes ahead.
func TestFirstFault(t *testing.T) {
	fails(t, "jump a\n=\nb:\nb:", api.ErrLine, 2)
	fails(t, "jump a\nb:\nb:\n=", api.ErrLabel, 3)
	fails(t, "\njump a\nb:\njeq r1, r2, c\n", api.ErrLabel, 2)
	fails(t, "jump b\njump a\nb:\njump c\n", api.ErrLabel, 2)
	fails(t, "jeq r11, r2, c", api.ErrLine, 1)
	fails(t, "add r10, r2\nadd", api.ErrLine, 1)
	exits := strings.Repeat("exit\n", 4096)
	fails(t, "jump a\n"+exits, api.ErrLong, 4097)
	fails(t, "jump a\n"+exits+"=", api.ErrLong, 4097)
	fails(t, exits+"=\nexit", api.ErrLine, 4097)
	fails(t, exits+"add r10, r2\nexit", api.ErrLine, 4097)
	fails(t, exits+"a:\n\na:\nexit", api.ErrLabel, 4099)
	fails(t, exits+"a:\n\nexit\na:", api.ErrLong, 4099)
	fails(t, exits+"jump a", api.ErrLong, 4097)
	fails(t, strings.Repeat("=\n", 1<<17)+"=", api.ErrLong, 0)
	fails(t, "a:\na:\n"+strings.Repeat(" ", 1<<18), api.ErrLong, 0)
}

// P7.1: what goes by: comments, blanks, empty lines; what parts tokens.
func TestBlanks(t *testing.T) {
	mov := api.Ins{Op: api.Mov, UseImm: true, Imm: 1}
	for _, s := range []string{
		"mov r0,1", "mov r0 ,1", "\t\r mov\t\r r0\t\r ,\t\r 1\t\r ", "mov\rr0,1", "mov r0, 1#", "mov r0, 1 # exit", "mov r0, 1#mov r0, 1\n", "mov r0, 1 ## \x00\xff\v", "\nmov r0, 1", "\n\n \n\t\r\nmov r0, 1\n\n", "#\nmov r0, 1\n#", "mov r0, 1\r\n", "# mov r0, 2\nmov r0, 1",
	} {
		says(t, s, mov)
	}
	says(t, "put8[r10-8],r3\nload1 r1,[r2+3]\njump+5\njump-5\njeq r1,-2,-3",
		api.Ins{Op: api.Put, Dst: 10, Off: -8, Src: 3, Size: 8}, api.Ins{Op: api.Load, Dst: 1, Src: 2, Off: 3, Size: 1},
		api.Ins{Op: api.Jump, Off: 5}, api.Ins{Op: api.Jump, Off: -5}, api.Ins{Op: api.Jeq, Dst: 1, UseImm: true, Imm: -2, Off: -3})
	says(t, "put8 [ r10 - 8 ] , - 3", api.Ins{Op: api.Put, Dst: 10, Off: -8, UseImm: true, Imm: -3, Size: 8})
	for _, s := range []string{"", "\n", "\n\n\n", " ", "\t", "\r", "\r\n", "#", "# exit", "#\n#", "\t # = \xff \n\r", "##"} {
		says(t, s)
	}
	for _, s := range []string{"movr0, 1", "mov r0, 1 exit", "mov r0, 1\vexit", "mo v r0, 1", "mov 32 r0, 1", "mov r0, 1 0", "load 8 r1, [r2 + 3]", "exit\f", "\vexit", "exit\x00", "exit;", "exit // x", "mov # r0, 1", "mov r0 1", "mov r0,, 1", "mov r0; 1", "mov r0, (1)", "exit\u00a0", "exit\u2028", "\ufeffexit", "e\u0301xit"} {
		fails(t, s, api.ErrLine, 1)
		fails(t, "\n#\nexit\n"+s+"\nexit", api.ErrLine, 4)
	}
}

// P7.1: each byte, at each place of a line.
func TestEachByte(t *testing.T) {
	p := newPatterns()
	for _, line := range []string{"", "exit", "a1:", "put8 [r10 - 8], r3", "jeq32 r2, -5, +7"} {
		for at := range len(line) + 1 {
			for n := range 256 {
				b := string([]byte{byte(n)})
				p.alike(t, line[:at]+b+line[at:])
				if at < len(line) {
					p.alike(t, line[:at]+b+line[at+1:])
				}
			}
		}
	}
}

// rows are lines of all kinds, as their tokens.
func rows() [][]string {
	var l [][]string
	for _, s := range []string{
		"a :", "mov r0 , 1", "add32 r1 , - 5", "xor r9 , r10", "neg r3", "neg32 r3", "load2 r3 , [ r1 + 12 ]", "load8 r3 , [ r10 - 8 ]",
		"put8 [ r10 - 8 ] , r3", "put1 [ r1 + 0 ] , - 7", "put4 [ r1 + 0 ] , 7", "jump a", "jump + 0", "jump - 3",
		"jeq r1 , r2 , a", "jsle32 r10 , - 5 , + 7", "jset r1 , 5 , - 7", "exit",
	} {
		l = append(l, strings.Fields(s))
	}
	return l
}

// P7.1: each token of each line left out, doubled, turned with another one, and
// put in another one's place.
func TestTokens(t *testing.T) {
	p := newPatterns()
	others := strings.Fields("mov exit a : , [ ] + - r1 r10 r11 0 7 jump 32 neg32")
	try := func(tokens ...[]string) {
		row := slices.Concat(tokens...)
		p.alike(t, "exit\n"+strings.Join(row, " ")+"\nexit")
		p.alike(t, strings.Join(row, " ")+"\na :")
		p.alike(t, strings.Join(row, ""))
	}
	for _, row := range rows() {
		if !p.alike(t, strings.Join(row, " ")+"\nb:") && !slices.Contains(row, "a") {
			t.Fatalf("%v has a fault", row)
		}
		for k, token := range row {
			try(row[:k], row[k+1:])
			try(row[:k], []string{token}, row[k:])
			try(row[:k])
			try(row[k:])
			for j := range row[:k] {
				turned := slices.Clone(row)
				turned[j], turned[k] = row[k], row[j]
				try(turned)
			}
			for _, other := range others {
				try(row[:k], []string{other}, row[k+1:])
				try(row[:k], []string{other}, row[k:])
			}
		}
		for _, other := range others {
			try(row, []string{other})
		}
	}
}

// P7.1: all rows of few tokens.
func TestShortRows(t *testing.T) {
	p := newPatterns()
	tokens := strings.Fields("mov neg32 load1 put1 jump jeq exit a r1 r10 7 , [ ] + - :")
	most := 4
	if testing.Short() {
		most = 3
	}
	var grow func(row string, left int)
	grow = func(row string, left int) {
		p.alike(t, row)
		for _, token := range tokens {
			if left > 0 {
				grow(row+" "+token, left-1)
			}
		}
	}
	grow("", most)
}

// drawText is lines of all kinds, with labels, and here and there a fault.
func drawText(r *rand.Rand, lines, faults int) string {
	label := func() string { return string(rune('a'+r.Intn(4+lines/2))) + "_" }
	blank := func() string { return []string{"", " ", "\t", "\r ", "  "}[r.Intn(5)] }
	var b strings.Builder
	for range lines {
		line := strings.TrimSuffix(plainShow(drawRight(r)), "\n")
		switch r.Intn(6) {
		case 0:
			line = label() + blank() + ":"
		case 1:
			line = "jump " + blank() + label()
		case 2:
			line = "jgt32 r1," + blank() + "-5," + label()
		case 3:
			line = strings.ReplaceAll(line, ", ", blank()+","+blank())
		}
		if faults > 0 && r.Intn(faults) == 0 && line != "" {
			at := r.Intn(len(line))
			line = line[:at] + string("=:,r0 \t-+[]az9#"[r.Intn(15)]) + line[at+r.Intn(2):]
		}
		b.WriteString(blank() + line + blank())
		b.WriteString([]string{"\n", "\n", "\r\n", "\n\n", "# = \n", "#\n \n"}[r.Intn(6)])
	}
	return b.String()
}

// P7.1: drawn texts.
func TestDrawnTexts(t *testing.T) {
	p := newPatterns()
	r := rand.New(rand.NewSource(1))
	good := 0
	for n := range 4000 {
		if p.alike(t, drawText(r, r.Intn(12), n%3*8)) {
			good++
		}
	}
	if good < 500 || good > 3500 {
		t.Errorf("%d of 4000 have no fault", good)
	}
}

// P7.1: as many instructions as may be, and one more, with jumps over all of
// them, and labels behind all.
func TestManyInstructions(t *testing.T) {
	exit := api.Ins{Op: api.Exit}
	exits := strings.Repeat("exit\n", 4094)
	want := slices.Concat([]api.Ins{{Op: api.Jump, Off: 4095}}, slices.Repeat([]api.Ins{exit}, 4094), []api.Ins{{Op: api.Jeq, UseImm: true, Off: -4096}})
	says(t, "a:\njump b\n"+exits+"jeq r0, 0, a\n\nb:\n", want...)
	says(t, "a:\njump b\n"+exits+"jeq r0, 0, a\n"+strings.Repeat("\n# \n", 5000)+"b:", want...)
	fails(t, "a:\njump b\n"+exits+"jeq r0, 0, a\n\nb:\nexit", api.ErrLong, 4100)
	fails(t, "a:\njump b\n"+exits+"jeq r0, 0, a\n\nb:\nneg r1\n", api.ErrLong, 4100)
	says(t, strings.Repeat("exit\n", 4096), slices.Repeat([]api.Ins{exit}, 4096)...)
	for _, n := range []int{4097, 4098, 8192, 50000} {
		fails(t, strings.Repeat("exit\n", n), api.ErrLong, 4097)
	}
	for _, empty := range []int{1, 7, 4096} {
		fails(t, strings.Repeat("\nexit\n", empty)+strings.Repeat("exit\n", 4097-empty), api.ErrLong, empty+4097)
	}
}

// P7.1: what is between a jump and its label must fit an Off. As many
// instructions never are in a text, so the second time through is asked alone.
func TestTooFar(t *testing.T) {
	for _, c := range []struct {
		at, stands int
		e          api.Errno
	}{{0, 1 << 15, api.OK}, {0, 1<<15 + 1, api.ErrLabel}, {1<<15 - 1, 0, api.OK}, {1 << 15, 0, api.ErrLabel}, {7, 1<<15 + 7, api.OK}, {7, 1<<15 + 8, api.ErrLabel}, {0, 1 << 20, api.ErrLabel}, {1<<16 - 1, 0, api.ErrLabel}} {
		for _, i := range []api.Ins{{Op: api.Jump}, {Op: api.Jset, Dst: 10, UseImm: true, Imm: -1, Narrow: true}} {
			f := filter{list: make([]api.Ins, 1<<16), labels: map[string]int{"a": c.stands}, jumps: []jump{{line: 12, at: c.at, label: "a"}}}
			f.list[c.at] = i
			fault := f.join()
			if fault.Err != c.e || fault.At != 12 && c.e != api.OK || fault.At != 0 && c.e == api.OK {
				t.Errorf("from %d to %d: %v", c.at, c.stands, fault)
			}
			if c.e == api.OK && f.list[c.at].Off != c.stands-c.at-1 {
				t.Errorf("from %d to %d: %d", c.at, c.stands, f.list[c.at].Off)
			}
		}
	}
}

// P7.1: texts as long as may be, and longer, of all kinds.
func TestLongTexts(t *testing.T) {
	const most = 1 << 18
	exit := api.Ins{Op: api.Exit}
	for _, piece := range []string{" ", "\n", "#", "\r\n", "\t", "# \xff\n"} {
		s := strings.Repeat(piece, most/len(piece)) + strings.Repeat(" ", most%len(piece))
		says(t, s)
		says(t, s[:most-5]+"\nexit", exit)
		says(t, "exit\n"+s[:most-5], exit)
		for more := 1; more < 9; more++ {
			fails(t, s+s[:more], api.ErrLong, 0)
			fails(t, s+strings.Repeat("\n", more), api.ErrLong, 0)
			fails(t, "exit\n"+s[:most-5]+s[:more], api.ErrLong, 0)
		}
		fails(t, s+s, api.ErrLong, 0)
	}
	for _, piece := range []string{"a", "0", "[", "=", "- ", "a:\n", "mov r0, 1 ", ":"} {
		s := strings.Repeat(piece, most/len(piece))
		if piece == "a:\n" {
			fails(t, s, api.ErrLabel, 2)
		} else {
			fails(t, s, api.ErrLine, 1)
			fails(t, strings.Repeat("\n", 100)+s[100:], api.ErrLine, 101)
		}
		fails(t, s+"       ", api.ErrLong, 0)
	}
	labels := 0
	var b strings.Builder
	for ; b.Len() < most-1000; labels++ {
		b.WriteString("l" + strconv.Itoa(labels) + ":\n")
	}
	last := "l" + strconv.Itoa(labels-1)
	says(t, b.String()+"jump l0\njump "+last, api.Ins{Op: api.Jump, Off: -1}, api.Ins{Op: api.Jump, Off: -2})
	fails(t, b.String()+"jump "+last+"9", api.ErrLabel, labels+1)
	fails(t, b.String()+last+":", api.ErrLabel, labels+1)
}

// isShown fails, unless the instructions are shown so.
func isShown(t *testing.T, want string, l ...api.Ins) {
	t.Helper()
	was := slices.Clone(l)
	if s, e := Show(l); e != api.OK || s != want {
		t.Fatalf("Show(%+v): %d, %.200q; not %.200q", l[:min(5, len(l))], e, s, want)
	}
	if !slices.Equal(l, was) {
		t.Fatal("Show changed the instructions")
	}
}

// showFails fails, unless there is that error, and nothing beside.
func showFails(t *testing.T, want api.Errno, l ...api.Ins) {
	t.Helper()
	if s, e := Show(l); e != want || s != "" {
		t.Fatalf("Show of %d: %d, %.80q; not %d", len(l), e, s, want)
	}
}

// P7.2, by hand.
func TestShowByHand(t *testing.T) {
	for want, i := range map[string]api.Ins{
		"add r1, r2\n":                      {Op: api.Add, Dst: 1, Src: 2},
		"sub32 r9, r10\n":                   {Op: api.Sub, Narrow: true, Dst: 9, Src: 10},
		"mov r0, 0\n":                       {Op: api.Mov, UseImm: true},
		"mov r0, r0\n":                      {Op: api.Mov},
		"mov r0, 2147483647\n":              {Op: api.Mov, UseImm: true, Imm: math.MaxInt32},
		"sar32 r9, -2147483648\n":           {Op: api.Sar, Narrow: true, Dst: 9, UseImm: true, Imm: math.MinInt32},
		"neg r9\n":                          {Op: api.Neg, Dst: 9},
		"neg32 r0\n":                        {Op: api.Neg, Narrow: true},
		"load1 r0, [r0 + 0]\n":              {Op: api.Load, Size: 1},
		"load2 r3, [r1 + 12]\n":             {Op: api.Load, Dst: 3, Src: 1, Off: 12, Size: 2},
		"load4 r9, [r10 - 1]\n":             {Op: api.Load, Dst: 9, Src: 10, Off: -1, Size: 4},
		"load8 r9, [r10 - 32768]\n":         {Op: api.Load, Dst: 9, Src: 10, Off: math.MinInt16, Size: 8},
		"load8 r9, [r10 + 32767]\n":         {Op: api.Load, Dst: 9, Src: 10, Off: math.MaxInt16, Size: 8},
		"put8 [r10 - 8], r3\n":              {Op: api.Put, Dst: 10, Off: -8, Src: 3, Size: 8},
		"put1 [r0 + 8], -1\n":               {Op: api.Put, Off: 8, UseImm: true, Imm: -1, Size: 1},
		"put2 [r0 + 0], 0\n":                {Op: api.Put, UseImm: true, Size: 2},
		"jump +0\n":                         {Op: api.Jump},
		"jump +32767\n":                     {Op: api.Jump, Off: math.MaxInt16},
		"jump -1\n":                         {Op: api.Jump, Off: -1},
		"jump -32768\n":                     {Op: api.Jump, Off: math.MinInt16},
		"jeq r10, r10, +0\n":                {Op: api.Jeq, Dst: 10, Src: 10},
		"jsle32 r1, -2147483648, -32768\n":  {Op: api.Jsle, Narrow: true, Dst: 1, UseImm: true, Imm: math.MinInt32, Off: math.MinInt16},
		"jset r0, 5, +7\n":                  {Op: api.Jset, UseImm: true, Imm: 5, Off: 7},
		"exit\n":                            {Op: api.Exit},
		"put4 [r10 - 32768], -2147483648\n": {Op: api.Put, Dst: 10, Off: math.MinInt16, UseImm: true, Imm: math.MinInt32, Size: 4},
		"jsgt32 r10, -2147483648, -32768\n": {Op: api.Jsgt, Narrow: true, Dst: 10, UseImm: true, Imm: math.MinInt32, Off: math.MinInt16},
		"xor32 r5, 1000000000\n":            {Op: api.Xor, Narrow: true, Dst: 5, UseImm: true, Imm: 1000000000},
	} {
		isShown(t, want, i)
		isShown(t, want+"exit\n"+want, i, api.Ins{Op: api.Exit}, i)
	}
	isShown(t, "")
	isShown(t, "", []api.Ins{}...)
}

// P7.2: what is not right, wherever it stands; more than may be.
func TestShowFails(t *testing.T) {
	exit := api.Ins{Op: api.Exit}
	for _, wrong := range []api.Ins{
		{}, {Op: 29}, {Op: 255}, {Op: api.Exit, Off: 1}, {Op: api.Exit, Narrow: true}, {Op: api.Exit, Imm: 1}, {Op: api.Mov, Dst: 10}, {Op: api.Mov, Src: 11}, {Op: api.Mov, Dst: -1},
		{Op: api.Mov, Imm: 1}, {Op: api.Mov, UseImm: true, Src: 1}, {Op: api.Mov, UseImm: true, Imm: 1 << 31}, {Op: api.Mov, UseImm: true, Imm: -1<<31 - 1}, {Op: api.Mov, Size: 1},
		{Op: api.Load}, {Op: api.Load, Size: 3}, {Op: api.Load, Size: -1}, {Op: api.Load, Size: 1, Narrow: true}, {Op: api.Load, Size: 1, Off: 1 << 15}, {Op: api.Load, Size: 1, UseImm: true},
		{Op: api.Put, Size: 8, Off: -1<<15 - 1}, {Op: api.Put, Size: 16}, {Op: api.Jump, Off: 1 << 15}, {Op: api.Jump, Narrow: true}, {Op: api.Jeq, Off: -1<<15 - 1}, {Op: api.Neg, Src: 1}, {Op: api.Neg, Dst: 10},
		{Op: api.Mov, Dst: math.MinInt, Src: math.MaxInt, Imm: math.MinInt}, {Op: api.Jump, Off: math.MinInt},
	} {
		showFails(t, api.ErrShape, wrong)
		for n := range 4 {
			l := slices.Repeat([]api.Ins{exit}, 4)
			l[n] = wrong
			showFails(t, api.ErrShape, l...)
		}
		l := slices.Repeat([]api.Ins{exit}, 4097)
		l[4095] = wrong
		showFails(t, api.ErrShape, l[:4096]...)
		showFails(t, api.ErrLong, l...)
		l[0] = wrong
		showFails(t, api.ErrLong, l...)
	}
	showFails(t, api.ErrLong, make([]api.Ins, 4097)...)
	showFails(t, api.ErrLong, make([]api.Ins, 1<<17)...)
	showFails(t, api.ErrShape, make([]api.Ins, 4096)...)
	isShown(t, strings.Repeat("exit\n", 4096), slices.Repeat([]api.Ins{exit}, 4096)...)
}

// P7.2: each field at its ends and one past them.
func TestShowFields(t *testing.T) {
	shown := 0
	for op := range 30 {
		for _, dst := range []int{-1, 0, 9, 10, 11} {
			for _, src := range []int{-1, 0, 1, 10, 11} {
				for _, imm := range []int{0, 5, -5, math.MaxInt32, math.MinInt32, math.MaxInt32 + 1, math.MinInt32 - 1} {
					for _, off := range []int{0, 5, -5, math.MaxInt16, math.MinInt16, math.MaxInt16 + 1, math.MinInt16 - 1} {
						for _, size := range []int{0, 1, 2, 3, 4, 8} {
							for flags := range 4 {
								i := api.Ins{Op: api.Op(op), Dst: dst, Src: src, Imm: imm, Off: off, Size: size, UseImm: flags&1 != 0, Narrow: flags&2 != 0}
								if !ins.Right(i) {
									showFails(t, api.ErrShape, i)
									continue
								}
								shown++
								isShown(t, plainShow(i), i)
								says(t, plainShow(i), i)
							}
						}
					}
				}
			}
		}
	}
	// Registers, second parts, Offs, sizes, widths: of Add to Mov, Neg, Load, Put,
	// Jump, Jeq to Jset, Exit.
	want := 12*2*2*(3+5) + 2*2 + 4*2*3*5 + 4*3*5*(3+5) + 5 + 11*2*3*5*(3+5) + 1
	if shown != want {
		t.Errorf("%d are right, not %d", shown, want)
	}
}

// P7.3: what is shown is parsed as it was; so is as much as may be.
func TestShownIsParsed(t *testing.T) {
	r := rand.New(rand.NewSource(2))
	for _, n := range []int{0, 1, 2, 3, 10, 100, 1000, 4095, 4096} {
		l := drawList(r, n)
		var want strings.Builder
		for _, i := range l {
			want.WriteString(plainShow(i))
		}
		isShown(t, want.String(), l...)
		says(t, want.String(), l...)
	}
	longest := api.Ins{Op: api.Jsge, Narrow: true, Dst: 10, UseImm: true, Imm: math.MinInt32, Off: math.MinInt16}
	s, e := Show(slices.Repeat([]api.Ins{longest}, 4096))
	if e != api.OK {
		t.Fatal(e)
	}
	says(t, s, slices.Repeat([]api.Ins{longest}, 4096)...)
}

// P7.3: what was parsed is shown, and that parsed as the same.
func TestParsedIsShown(t *testing.T) {
	r := rand.New(rand.NewSource(3))
	for range 1000 {
		l, f := Parse(drawText(r, r.Intn(10), 0))
		if f.Err != api.OK {
			continue
		}
		s, e := Show(l)
		if e != api.OK {
			t.Fatalf("Show(%+v): %d", l, e)
		}
		says(t, s, l...)
		isShown(t, s, l...)
	}
}

// R3: what is told is new memory each time.
func TestNewMemory(t *testing.T) {
	s := "a:\njump a\nmov r1, 5\nexit"
	one, _ := Parse(s)
	want := slices.Clone(one)
	clear(one[:cap(one)])
	says(t, s, want...)
	shown, _ := Show(want)
	l := slices.Clone(want)
	again, _ := Show(l)
	clear(l)
	if again != shown || shown != "jump -1\nmov r1, 5\nexit\n" {
		t.Errorf("%q, %q", shown, again)
	}
	row := append(slices.Clone(want), api.Ins{}, api.Ins{Op: 99})
	isShown(t, shown, row[:3]...)
	if row[4].Op != 99 {
		t.Error("what stands behind the end was written to")
	}
}

// R4: the same is told each time, whoever else asks.
func TestAlike(t *testing.T) {
	r := rand.New(rand.NewSource(4))
	l := drawList(r, 200)
	s, _ := Show(l)
	bad := s + "jump nowhere\n" + s + "a:\nb:\na:\n"
	var wait sync.WaitGroup
	for range 4 {
		wait.Go(func() {
			for range 20 {
				says(t, s, l...)
				fails(t, bad, api.ErrLabel, 404)
				if got, e := Show(l); e != api.OK || got != s {
					t.Error("it is shown otherwise")
				}
			}
		})
	}
	wait.Wait()
}

// R1, P7.1, P7.3: whatever the text.
func FuzzParse(f *testing.F) {
	f.Add("a:\nmov r0, 1 # x\njeq32 r2,-5 , a\nload2 r3, [r1 + 12]\r\nput8 [r10 - 8], r3\nneg32 r0\njump +0\nexit")
	f.Add("jump a\na:\na:")
	f.Add("\xff\x00=")
	p := newPatterns()
	f.Fuzz(func(t *testing.T, s string) {
		if p.alike(t, s) {
			l, _ := Parse(s)
			shown, e := Show(l)
			if e != api.OK {
				t.Fatal(e)
			}
			says(t, shown, l...)
		}
	})
}
