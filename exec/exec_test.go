package exec

import (
	"bytes"
	"math"
	"math/rand"
	"slices"
	"strconv"
	"strings"
	"sync"
	"testing"

	"barbican/api"
	"barbican/ins"
	"barbican/shape"
	"barbican/text"
)

// exit is the instruction that ends.
var exit = api.Ins{Op: api.Exit}

// lines is the filter whose lines these are, parted by strokes, one string
// behind the other.
func lines(t *testing.T, parts ...string) []api.Ins {
	t.Helper()
	s := strings.Join(parts, " / ")
	l, f := text.Parse(strings.ReplaceAll(s, "/", "\n"))
	if f != (api.Fault{}) {
		t.Fatalf("%s: %+v", s, f)
	}
	return l
}

// runs is what Run tells of l over the packet; it fails, if l or the packet
// are not as they were, or if it is not told again.
func runs(t *testing.T, l []api.Ins, packet []byte) api.Outcome {
	t.Helper()
	wasL, wasP := slices.Clone(l), bytes.Clone(packet)
	o := Run(l, packet)
	if !slices.Equal(l, wasL) || !bytes.Equal(packet, wasP) {
		t.Errorf("%s changed the filter or the packet", shown(wasL))
	}
	if again := Run(l, packet); again != o {
		t.Errorf("%s: %+v, then %+v", shown(l), o, again)
	}
	return o
}

// shown is l's lines, or how many instructions they are.
func shown(l []api.Ins) string {
	s, e := text.Show(l)
	if e != api.OK || len(l) > 60 {
		return strconv.Itoa(len(l)) + " instructions"
	}
	return strings.ReplaceAll(strings.TrimSpace(s), "\n", " / ")
}

// does asks that l ends so over the packet.
func does(t *testing.T, l []api.Ins, packet []byte, want api.Outcome) {
	t.Helper()
	if o := runs(t, l, packet); o != want {
		t.Errorf("%s, over %d bytes: %+v, not %+v", shown(l), len(packet), o, want)
	}
}

// plainly asks that l ends as the plain way says.
func plainly(t *testing.T, l []api.Ins, packet []byte) api.Outcome {
	t.Helper()
	want := plainRun(l, packet)
	does(t, l, packet, want)
	return want
}

// tells asks that the lines tell the verdict, all of them being steps.
func tells(t *testing.T, packet []byte, verdict uint64, parts ...string) {
	t.Helper()
	l := lines(t, parts...)
	does(t, l, packet, api.Outcome{Verdict: verdict, Steps: len(l)})
}

// fails asks that the lines have that fault there, all ahead of it being steps.
func fails(t *testing.T, packet []byte, e api.Errno, at int, parts ...string) {
	t.Helper()
	does(t, lines(t, parts...), packet, api.Outcome{Err: e, At: at, Steps: at + 1})
}

// fourteen is a packet.
func fourteen() []byte {
	return []byte{0x01, 0x12, 0x23, 0x34, 0x45, 0x56, 0x67, 0x78, 0x89, 0x9a, 0xab, 0xbc, 8, 6}
}

// numberIn is four lines that make n the Number of the register; they spoil r9.
func numberIn(reg int, n uint64) string {
	name := "r" + strconv.Itoa(reg)
	high, low := strconv.Itoa(int(int32(n>>32))), strconv.Itoa(int(int32(n)))
	return "mov " + name + ", " + high + " / shl " + name + ", 32 / mov32 r9, " + low + " / or " + name + ", r9"
}

// P10.1, P10.2: the chapter's examples.
func TestExamples(t *testing.T) {
	const load = "load2 r0, [r1 + 12] / exit"
	tells(t, fourteen(), 2054, load)
	fails(t, fourteen()[:13], api.ErrBounds, 0, load)
	fails(t, fourteen(), api.ErrUnset, 0, "mov r0, r3 / exit")
}

// P10.1, P10.2: the document's first three examples.
func TestAsked(t *testing.T) {
	asks := lines(t, "mov r0, 7 / jlt r2, 14, out / load2 r0, [r1 + 12] / out: / exit")
	does(t, asks, fourteen(), api.Outcome{Verdict: 2054, Steps: 4})
	does(t, asks, fourteen()[:13], api.Outcome{Verdict: 7, Steps: 3})
	divides := lines(t, "load1 r3, [r1 + 0] / mov r0, 100 / div r0, r3 / exit")
	does(t, divides, []byte{7}, api.Outcome{Verdict: 14, Steps: 4})
	does(t, divides, []byte{0}, api.Outcome{Err: api.ErrDivide, At: 2, Steps: 3})
	one := lines(t, "load1 r3, [r1 + 0] / add r3, 1 / mov r0, 100 / div r0, r3 / exit")
	for n := range 256 {
		does(t, one, []byte{byte(n)}, api.Outcome{Verdict: 100 / (uint64(n) + 1), Steps: 5})
	}
}

// P10.1: what the registers are at first: r1 and r10 are pointers, each to its
// own bytes, r2 is how many bytes there are, the others are Unset.
func TestAtFirst(t *testing.T) {
	for _, n := range []int{0, 1, 14, 255, 256, 1500, 65534, 65535} {
		tells(t, make([]byte, n), uint64(n), "mov r0, r2 / exit")
	}
	for _, reg := range []string{"r0", "r3", "r4", "r5", "r6", "r7", "r8", "r9"} {
		fails(t, fourteen(), api.ErrUnset, 0, "mov r0, "+reg+" / exit")
		fails(t, fourteen(), api.ErrUnset, 0, "load1 r0, ["+reg+" + 0] / exit")
		fails(t, fourteen(), api.ErrUnset, 0, "jeq "+reg+", "+reg+", +0 / exit")
	}
	fails(t, fourteen(), api.ErrUnset, 0, "exit")
	for _, reg := range []string{"r1", "r10"} {
		fails(t, fourteen(), api.ErrKind, 1, "mov r0, "+reg+" / exit")
	}
	tells(t, fourteen(), 0x01, "load1 r0, [r1 + 0] / exit")
	fails(t, fourteen(), api.ErrBounds, 0, "load1 r0, [r1 - 1] / exit")
	fails(t, fourteen(), api.ErrBounds, 0, "load1 r0, [r10 + 0] / exit")
	fails(t, fourteen(), api.ErrUnset, 0, "load1 r0, [r10 - 1] / exit")
}

// P10.1: no byte of the stack is set at first.
func TestStackAtFirst(t *testing.T) {
	for _, size := range []int{1, 2, 4, 8} {
		for at := -512; at <= -size; at++ {
			l := []api.Ins{{Op: api.Load, Src: 10, Off: at, Size: size}, exit}
			does(t, l, fourteen(), api.Outcome{Err: api.ErrUnset, Steps: 1})
		}
	}
}

// reckoned is what an Op makes of two numbers.
type reckoned struct {
	op           string
	a, b         uint64
	wide, narrow uint64
}

// P10.2: Add .. Sar and Neg, wide and narrow, the second part a register; also
// such where both parts are one register.
func TestReckon(t *testing.T) {
	const top = 1 << 63
	for _, c := range []reckoned{
		{"add", 3, 5, 8, 8},
		{"add", math.MaxUint64, 2, 1, 1},
		{"add", math.MaxUint32, 2, 1<<32 + 1, 1},
		{"sub", 5, 3, 2, 2},
		{"sub", 3, 5, math.MaxUint64 - 1, math.MaxUint32 - 1},
		{"mul", 1<<32 + 3, 1<<32 + 5, 8<<32 + 15, 15},
		{"mul", 1 << 31, 4, 1 << 33, 0},
		{"div", 17, 5, 3, 3},
		{"div", math.MaxUint64, 2, math.MaxInt64, math.MaxInt32},
		{"mod", 17, 5, 2, 2},
		{"mod", 1<<32 + 17, 5, 3, 2},
		{"and", 0xf0f0 << 24, 0xff0f << 24, 0xf000 << 24, 0},
		{"and", 6, 3, 2, 2},
		{"or", 1<<40 | 6, 3, 1<<40 | 7, 7},
		{"xor", 1<<40 | 6, 3, 1<<40 | 5, 5},
		{"shl", 1<<31 | 1, 33, 1 << 33, 2},
		{"shl", 3, 65, 6, 6},
		{"shr", top | 8, 3, 1<<60 | 1, 1},
		{"shr", 1<<33 | 1<<31, 33, 1, 1 << 30},
		{"sar", top, 63, math.MaxUint64, 0},
		{"sar", 1 << 31, 33, 0, 3 << 30},
		{"mov", 1, 1<<40 | 9, 1<<40 | 9, 9},
	} {
		setup := numberIn(4, c.a) + " / " + numberIn(5, c.b)
		tells(t, nil, c.wide, setup, c.op+" r4, r5", "mov r0, r4 / exit")
		tells(t, nil, c.narrow, setup, c.op+"32 r4, r5", "mov r0, r4 / exit")
		tells(t, nil, c.b, setup, c.op+" r4, r5", "mov r0, r5 / exit")
	}
	for _, c := range []reckoned{
		{"neg", 1, 0, math.MaxUint64, math.MaxUint32},
		{"neg", 0, 0, 0, 0},
		{"neg", 1 << 32, 0, math.MaxUint64 - math.MaxUint32, 0},
		{"neg", 1<<63 | 5, 0, 1<<63 - 5, 1<<32 - 5},
	} {
		tells(t, nil, c.wide, numberIn(4, c.a), c.op+" r4", "mov r0, r4 / exit")
		tells(t, nil, c.narrow, numberIn(4, c.a), c.op+"32 r4", "mov r0, r4 / exit")
	}
	for op, want := range map[string]uint64{
		"add": 42, "sub": 0, "mul": 441, "div": 1, "mod": 0, "and": 21, "or": 21, "xor": 0,
		"shl": 21 << 21, "shr": 0, "sar": 0, "mov": 21,
	} {
		tells(t, nil, want, "mov r0, 21", op+" r0, r0", "exit")
		tells(t, nil, uint64(uint32(want)), "mov r0, 21", op+"32 r0, r0", "exit")
	}
}

// P10.2: the same with Imm as the second part, at its ends, too: it is wide
// first, and then cut.
func TestReckonImm(t *testing.T) {
	for _, c := range []reckoned{
		{"add", 1, math.MaxUint64, 0, 0},
		{"sub", 1, math.MaxUint64, 2, 2},
		{"mul", 3, math.MaxUint64, math.MaxUint64 - 2, math.MaxUint32 - 2},
		{"div", 10, math.MaxUint64, 0, 0},
		{"div", math.MaxUint64, math.MaxUint64, 1, 1},
		{"mod", 10, math.MaxUint64, 10, 10},
		{"and", 1<<40 | 5, math.MaxUint64, 1<<40 | 5, 5},
		{"or", 5, math.MaxUint64, math.MaxUint64, math.MaxUint32},
		{"xor", 5, math.MaxUint64, math.MaxUint64 - 5, math.MaxUint32 - 5},
		{"shl", 1, math.MaxUint64, 1 << 63, 1 << 31},
		{"shr", math.MaxUint64, math.MaxUint64, 1, 1},
		{"sar", 1 << 63, math.MaxUint64, math.MaxUint64, 0},
		{"mov", 1, math.MaxUint64, math.MaxUint64, math.MaxUint32},
		{"mov", 1, 1<<31 - 1, 1<<31 - 1, 1<<31 - 1},
		{"mov", 1, 1<<64 - 1<<31, 1<<64 - 1<<31, 1 << 31},
		{"add", 1, 1<<31 - 1, 1 << 31, 1 << 31},
		{"add", 1, 1<<64 - 1<<31, 1<<64 - 1<<31 + 1, 1<<31 + 1},
		{"or", 0, 1<<64 - 1<<31, 1<<64 - 1<<31, 1 << 31},
		{"and", math.MaxUint64, 1<<64 - 1<<31, 1<<64 - 1<<31, 1 << 31},
		{"mov", 1, 0, 0, 0},
	} {
		by := ", " + strconv.Itoa(int(int64(c.b)))
		tells(t, nil, c.wide, numberIn(4, c.a), c.op+" r4"+by, "mov r0, r4 / exit")
		tells(t, nil, c.narrow, numberIn(4, c.a), c.op+"32 r4"+by, "mov r0, r4 / exit")
	}
}

// P10.2: ErrDivide, of Div and Mod by 0 alone; narrow by what is 0 cut.
func TestDivide(t *testing.T) {
	for _, op := range []string{"div", "mod"} {
		fails(t, nil, api.ErrDivide, 1, "mov r0, 5", op+" r0, 0", "exit")
		fails(t, nil, api.ErrDivide, 1, "mov r0, 5", op+"32 r0, 0", "exit")
		fails(t, nil, api.ErrDivide, 2, "mov r0, 5 / mov r3, 0", op+" r0, r3", "exit")
		fails(t, nil, api.ErrDivide, 1, "mov r0, 0", op+" r0, r0", "exit")
		fails(t, nil, api.ErrDivide, 1, "mov r0, 5", op+" r0, r2", "exit")
		fails(t, nil, api.ErrDivide, 5, "mov r0, 5", numberIn(3, 1<<32), op+"32 r0, r3", "exit")
		if o := runs(t, lines(t, "mov r0, 5", numberIn(3, 1<<32), op+" r0, r3", "exit"), nil); o.Err != api.OK {
			t.Errorf("%s by 2^32: %+v", op, o)
		}
	}
	for _, op := range []string{"add", "sub", "mul", "and", "or", "xor", "shl", "shr", "sar", "mov"} {
		if o := runs(t, lines(t, "mov r0, 5", op+" r0, 0", "exit"), nil); o.Err != api.OK {
			t.Errorf("%s of 0: %+v", op, o)
		}
	}
}

// asked is what a jump says of a and b, read from 0 on, and cut.
type asked struct {
	op           string
	a, b         uint64
	wide, narrow bool
}

// questions are such on whose wide and narrow answers all ends hang.
func questions() []asked {
	const top, half, all = 1 << 63, 1 << 31, math.MaxUint64
	return []asked{
		{"jeq", 5, 5, true, true}, {"jeq", 5, 6, false, false}, {"jeq", 1<<32 | 5, 5, false, true},
		{"jne", 5, 5, false, false}, {"jne", 5, 6, true, true}, {"jne", 1<<32 | 5, 5, true, false},
		{"jgt", 6, 5, true, true}, {"jgt", 5, 5, false, false}, {"jgt", 5, 6, false, false}, {"jgt", top, 1, true, false}, {"jgt", half, 1, true, true},
		{"jge", 6, 5, true, true}, {"jge", 5, 5, true, true}, {"jge", 5, 6, false, false}, {"jge", 1 << 32, 1, true, false},
		{"jlt", 6, 5, false, false}, {"jlt", 5, 5, false, false}, {"jlt", 5, 6, true, true}, {"jlt", 1, 1 << 32, true, false}, {"jlt", half, 0, false, false},
		{"jle", 6, 5, false, false}, {"jle", 5, 5, true, true}, {"jle", 5, 6, true, true}, {"jle", 1, 1 << 32, true, false},
		{"jsgt", 5, all, true, true}, {"jsgt", 5, 5, false, false}, {"jsgt", all, 5, false, false}, {"jsgt", half, 1, true, false}, {"jsgt", top, 1, false, false},
		{"jsge", 5, all, true, true}, {"jsge", 5, 5, true, true}, {"jsge", all, 5, false, false}, {"jsge", half, 1, true, false}, {"jsge", top, 0, false, true},
		{"jslt", 5, all, false, false}, {"jslt", 5, 5, false, false}, {"jslt", all, 5, true, true}, {"jslt", half, 0, false, true}, {"jslt", top, 0, true, false},
		{"jsle", 5, all, false, false}, {"jsle", 5, 5, true, true}, {"jsle", all, 5, true, true}, {"jsle", half, 0, false, true}, {"jsle", top, 0, true, true},
		{"jset", 6, 3, true, true}, {"jset", 4, 3, false, false}, {"jset", top | 1, top | 2, true, false}, {"jset", 0, all, false, false},
	}
}

// P10.2: Jeq .. Jset, wide and narrow, taken and not.
func TestJumps(t *testing.T) {
	for _, c := range questions() {
		setup := numberIn(4, c.a) + " / " + numberIn(5, c.b) + " / mov r0, 1 / "
		for _, narrow := range []bool{false, true} {
			op, yes := c.op, c.wide
			if narrow {
				op, yes = c.op+"32", c.narrow
			}
			l := lines(t, setup, op+" r4, r5, +2 / mov r0, 2 / mov r0, 3 / exit")
			want := api.Outcome{Verdict: 3, Steps: 13}
			if yes {
				want = api.Outcome{Verdict: 1, Steps: 11}
			}
			does(t, l, nil, want)
			if imm := int64(c.b); imm == int64(int32(imm)) {
				l[9].Src, l[9].UseImm, l[9].Imm = 0, true, int(imm)
				does(t, l, nil, want)
			}
		}
	}
}

// P10.2: a jump of 0 goes on, taken or not; one may go to the last place, from
// the first one, too; each register is asked.
func TestJumpEnds(t *testing.T) {
	tells(t, nil, 4, "mov r0, 4 / jump +0 / exit")
	tells(t, nil, 4, "mov r0, 4 / jeq r0, 4, +0 / exit")
	tells(t, nil, 4, "mov r0, 4 / jne r0, 4, +0 / exit")
	does(t, lines(t, "jeq r2, 0, +1 / jump +1 / jump +2 / mov r0, 1 / exit / mov r0, 2 / exit"), nil,
		api.Outcome{Verdict: 2, Steps: 4})
	does(t, lines(t, "jeq r2, 0, +1 / jump +1 / jump +2 / mov r0, 1 / exit / mov r0, 2 / exit"), fourteen(),
		api.Outcome{Verdict: 1, Steps: 4})
	for reg := range 10 {
		name := "r" + strconv.Itoa(reg)
		l := lines(t, "mov "+name+", 11 / jeq "+name+", 11, +1 / exit / mov r0, 3 / exit")
		does(t, l, nil, api.Outcome{Verdict: 3, Steps: 4})
	}
	// Imm at its ends: it is wide first, and then cut.
	least, most := numberIn(3, 1<<64-1<<31), numberIn(3, 1<<31-1)
	does(t, lines(t, least, "mov r0, 1 / jeq r3, -2147483648, +1 / exit / mov r0, 2 / exit"), nil, api.Outcome{Verdict: 2, Steps: 8})
	does(t, lines(t, most, "mov r0, 1 / jeq r3, 2147483647, +1 / exit / mov r0, 2 / exit"), nil, api.Outcome{Verdict: 2, Steps: 8})
	half := numberIn(3, 1<<31)
	does(t, lines(t, half, "mov r0, 1 / jeq r3, -2147483648, +1 / exit / mov r0, 2 / exit"), nil, api.Outcome{Verdict: 1, Steps: 7})
	does(t, lines(t, half, "mov r0, 1 / jeq32 r3, -2147483648, +1 / exit / mov r0, 2 / exit"), nil, api.Outcome{Verdict: 2, Steps: 8})
}

// kindLines make a register, whose number stands for %, of each kind but Unset.
func kindLines() []string {
	return []string{"mov r%, 3", "mov r%, r1", "mov r%, r10"}
}

// variants are all right instructions from Add to Jset of Dst r4 and the second
// part r5, or Imm: wide and narrow, of each size. Off is such that a load and a
// put are of the stack.
func variants() []api.Ins {
	var l []api.Ins
	for op := api.Add; op <= api.Jset; op++ {
		for _, narrow := range []bool{false, true} {
			for _, size := range []int{0, 1, 2, 4, 8} {
				i := api.Ins{Op: op, Narrow: narrow, Dst: 4, Size: size}
				if op == api.Load || op == api.Put {
					i.Off = -8
				}
				byReg, byImm := i, i
				byReg.Src = 5
				byImm.UseImm, byImm.Imm = true, -7
				l = append(l, i, byReg, byImm)
			}
		}
	}
	return slices.DeleteFunc(l, func(i api.Ins) bool {
		two := i.Op != api.Neg
		return !ins.Right(i) || two && !i.UseImm && i.Src == 0
	})
}

// P10.2: the registers that are asked for, each Unset in its turn: ErrUnset,
// whatever the other one is; of one that is not asked for another end.
func TestUnset(t *testing.T) {
	const put = "put8 [r10 - 8], 3"
	unset := api.Outcome{Err: api.ErrUnset, At: 2, Steps: 3}
	asked := func(set string, i api.Ins, is bool) {
		t.Helper()
		l := append(lines(t, put, set, "exit")[:2], i, api.Ins{Op: api.Mov, UseImm: true}, exit)
		if o := runs(t, l, fourteen()); (o == unset) != is {
			t.Errorf("%s: %+v", shown(l), o)
		}
	}
	for _, i := range variants() {
		asksDst := i.Op != api.Mov && i.Op != api.Load
		asksSrc := i.Src == 5
		for _, kind := range kindLines() {
			asked(strings.ReplaceAll(kind, "%", "4"), i, asksSrc)
			asked(strings.ReplaceAll(kind, "%", "5"), i, asksDst)
		}
		asked("mov r8, 3", i, asksDst || asksSrc)
	}
}

// P10.2: all instructions over all kinds of values on both sides are as the
// plain way says; so are all registers behind them.
func TestAllKinds(t *testing.T) {
	seen := map[api.Errno]int{}
	kinds := append(kindLines(), "mov r8, 3")
	for _, i := range variants() {
		for _, dst := range kinds {
			for _, src := range kinds {
				setup := strings.ReplaceAll(dst, "%", "4") + " / " + strings.ReplaceAll(src, "%", "5")
				l := lines(t, setup, "put8 [r10 - 8], -2 / exit")
				for reg := range api.Regs {
					l := slices.Concat(l[:3], []api.Ins{i, {Op: api.Mov, Src: reg}, exit})
					seen[plainly(t, l, fourteen()).Err]++
				}
			}
		}
	}
	for _, e := range []api.Errno{api.OK, api.ErrUnset, api.ErrKind, api.ErrPointer, api.ErrBounds} {
		if seen[e] < 100 {
			t.Errorf("%d was met %d times only", e, seen[e])
		}
	}
}

// P10.2: a pointer where Numbers are asked for, by hand.
func TestPointers(t *testing.T) {
	for _, p := range []string{"r1", "r10"} {
		take := "mov r4, " + p + " / mov r5, 3"
		for _, op := range []string{"mul", "div", "mod", "and", "or", "xor", "shl", "shr", "sar", "add32", "sub32", "mul32", "div32"} {
			fails(t, fourteen(), api.ErrPointer, 2, take, op+" r4, 3 / exit")
			fails(t, fourteen(), api.ErrPointer, 2, take, op+" r4, 0 / exit")
			fails(t, fourteen(), api.ErrPointer, 2, take, op+" r4, r5 / exit")
			fails(t, fourteen(), api.ErrPointer, 2, take, op+" r5, r4 / exit")
			fails(t, fourteen(), api.ErrPointer, 2, take, op+" r4, r4 / exit")
		}
		for _, op := range []string{"add", "sub"} {
			fails(t, fourteen(), api.ErrPointer, 2, take, op+" r5, r4 / exit")
			fails(t, fourteen(), api.ErrPointer, 2, take, op+" r4, r4 / exit")
			fails(t, fourteen(), api.ErrPointer, 2, take, op+" r4, r1 / exit")
			fails(t, fourteen(), api.ErrPointer, 2, take, op+" r4, r10 / exit")
		}
		fails(t, fourteen(), api.ErrPointer, 2, take, "neg r4 / exit")
		fails(t, fourteen(), api.ErrPointer, 2, take, "neg32 r4 / exit")
		fails(t, fourteen(), api.ErrPointer, 2, take, "mov32 r0, r4 / exit")
		fails(t, fourteen(), api.ErrPointer, 2, take, "mov32 r4, r4 / exit")
		fails(t, fourteen(), api.ErrKind, 3, take, "mov r0, r4 / exit")
		for op := api.Jeq; op <= api.Jset; op++ {
			for _, i := range []api.Ins{{Dst: 4, Src: 4}, {Dst: 4, Src: 5}, {Dst: 5, Src: 4}, {Dst: 4, UseImm: true}} {
				for _, i.Narrow = range []bool{false, true} {
					i.Op = op
					l := slices.Concat(lines(t, take, "exit")[:2], []api.Ins{i, exit})
					does(t, l, fourteen(), api.Outcome{Err: api.ErrKind, At: 2, Steps: 3})
				}
			}
		}
	}
}

// P10.2: what Mov hands on is a pointer still, of its kind; the one it was made
// of stays as it was.
func TestMovedPointers(t *testing.T) {
	tells(t, fourteen(), 0x23, "mov r3, r1 / add r3, 2 / load1 r0, [r3 + 0] / exit")
	tells(t, fourteen(), 0x01, "mov r3, r1 / add r3, 2 / load1 r0, [r1 + 0] / exit")
	tells(t, fourteen(), 0x34, "mov r3, r1 / mov r4, 3 / add r3, r4 / load1 r0, [r3 + 0] / exit")
	tells(t, fourteen(), 0x12, "mov r3, r1 / add r3, 4 / sub r3, 3 / load1 r0, [r3 + 0] / exit")
	tells(t, fourteen(), 0x12, "add r1, 4 / sub r1, 3 / load1 r0, [r1 + 0] / exit")
	tells(t, fourteen(), 0x12, "sub r1, -1 / load1 r0, [r1 + 0] / exit")
	tells(t, fourteen(), 6, "add r1, r2 / load1 r0, [r1 - 1] / exit")
	fails(t, fourteen(), api.ErrBounds, 1, "add r1, r2 / load1 r0, [r1 + 0] / exit")
	fails(t, fourteen(), api.ErrBounds, 1, "sub r1, 1 / load1 r0, [r1 + 0] / exit")
	tells(t, fourteen(), 0x01, "sub r1, 1 / load1 r0, [r1 + 1] / exit")
	tells(t, fourteen(), 9, "mov r3, r10 / sub r3, 8 / put1 [r3 + 2], 9 / load1 r0, [r10 - 6] / exit")
	tells(t, fourteen(), 9, "mov r3, r10 / add r3, -8 / put1 [r10 - 8], 9 / load1 r0, [r3 + 0] / exit")
	tells(t, fourteen(), 9, "mov r3, r10 / mov r4, -8 / add r3, r4 / put1 [r3 + 0], 9 / load1 r0, [r10 - 8] / exit")
	tells(t, fourteen(), 9, "mov r3, r10 / mov r4, 8 / sub r3, r4 / put1 [r3 + 0], 9 / load1 r0, [r10 - 8] / exit")
	// A Number in place of a pointer is one for good.
	tells(t, fourteen(), 5, "mov r1, 5 / mov r0, r1 / exit")
	fails(t, fourteen(), api.ErrKind, 1, "mov r1, 5 / load1 r0, [r1 + 0] / exit")
	tells(t, fourteen(), 0x01, "load1 r1, [r1 + 0] / mov r0, r1 / exit")
	tells(t, fourteen(), 0x12, "mov r2, r1 / load1 r0, [r2 + 1] / exit")
}

// P10.2: pointers whose N is near both ends of 64 bits: N is added to modulo
// 2^64, and read as signed; no place there is one of the packet or the stack.
func TestFarPointers(t *testing.T) {
	r := rand.New(rand.NewSource(1))
	offs := []int{-1 << 15, -1<<15 + 1, -600, -513, -512, -511, -8, -1, 0, 1, 8, 14, 512, 1<<15 - 1}
	ends := []uint64{0, 1 << 63, 1 << 32, 1 << 31, 1<<64 - 1<<32, 1 << 16}
	for _, end := range ends {
		for _, d := range []int{-1 << 15, -1 << 14, -513, -512, -20, -8, -2, -1, 0, 1, 2, 8, 20, 512, 1 << 15} {
			n := end + uint64(d)
			for _, off := range offs {
				size := 1 << r.Intn(4)
				for _, way := range []string{"add", "sub"} {
					by := n
					if way == "sub" {
						by = -n
					}
					at, sz := strconv.Itoa(off), strconv.Itoa(size)
					if off >= 0 {
						at = "+" + at
					}
					setup := numberIn(3, by) + " / mov r4, r1 / mov r5, r10 / " + way + " r4, r3 / " + way + " r5, r3"
					plainly(t, lines(t, setup, "load"+sz+" r0, [r4 "+at+"] / exit"), fourteen())
					plainly(t, lines(t, setup, "load"+sz+" r0, [r5 "+at+"] / exit"), fourteen())
					plainly(t, lines(t, setup, "put"+sz+" [r5 "+at+"], -2 / load"+sz+" r0, [r5 "+at+"] / exit"), fourteen())
				}
			}
		}
	}
	for _, n := range []uint64{1<<63 - 1, 1<<63 - 9, 1 << 63, 1<<63 + 9} {
		for _, off := range []string{"+ 32767", "- 32768", "+ 0", "+ 512"} {
			for _, i := range []string{"load1 r0, [r1 %]", "load8 r0, [r1 %]", "load8 r0, [r4 %]", "put1 [r4 %], 1"} {
				fails(t, fourteen(), api.ErrBounds, 7, numberIn(3, n), "mov r4, r10 / add r4, r3 / add r1, r3",
					strings.ReplaceAll(i, "%", off), "exit")
			}
		}
	}
	// Once round is where it was.
	tells(t, fourteen(), 0x12, numberIn(3, 1<<63), "add r1, r3 / sub r1, r3 / load1 r0, [r1 + 1] / exit")
	tells(t, fourteen(), 0x12, numberIn(3, 1<<63), "add r1, r3 / add r1, r3 / load1 r0, [r1 + 1] / exit")
	tells(t, fourteen(), 0x23, numberIn(3, 1<<64-3), "sub r1, r3 / load1 r0, [r1 - 1] / exit")
	tells(t, fourteen(), 0x12, numberIn(3, 1<<64-3), "add r1, r3 / load1 r0, [r1 + 4] / exit")
}

// P10.2: all bits of N count: with one of the high ones turned, a pointer that
// was at a byte is at none.
func TestEachBit(t *testing.T) {
	for _, p := range []string{"r1", "r10"} {
		for _, from := range []int{0, 13, -1, -512} {
			for bit := range 64 {
				l := lines(t, numberIn(3, uint64(from)^1<<bit), "mov r4, "+p+" / add r4, r3 / put1 [r10 - 1], 5 / put1 [r10 - 512], 6 / load1 r0, [r4 + 0] / exit")
				if o := plainly(t, l, fourteen()); bit > 9 && o.Err != api.ErrBounds {
					t.Errorf("%s, moved to %d with the bit %d turned: %+v", p, from, bit, o)
				}
			}
		}
	}
}

// P10.2: loads of the packet, of each size, at all places around it, by Off and
// by N.
func TestLoads(t *testing.T) {
	r := rand.New(rand.NewSource(2))
	for n := range 20 {
		packet := make([]byte, n)
		r.Read(packet)
		for _, size := range []int{1, 2, 4, 8} {
			for at := -12; at < 32; at++ {
				want := api.Outcome{Err: api.ErrBounds, At: 1, Steps: 2}
				if at >= 0 && at+size <= n {
					v := uint64(0)
					for _, b := range packet[at : at+size] {
						v = v<<8 | uint64(b)
					}
					want = api.Outcome{Verdict: v, Steps: 3}
				}
				for _, moved := range []int{0, at, 100, -100, 1 << 20} {
					if off := at - moved; off == int(int16(off)) {
						does(t, []api.Ins{
							{Op: api.Add, Dst: 1, UseImm: true, Imm: moved}, {Op: api.Load, Src: 1, Off: off, Size: size}, exit,
						}, packet, want)
					}
				}
			}
		}
	}
}

// P10.2: loads of the first and the last place of long packets, and past it;
// of the longest one, too.
func TestLongLoads(t *testing.T) {
	r := rand.New(rand.NewSource(3))
	for _, n := range []int{1500, 32767, 32768, 32775, 65534, 65535} {
		packet := make([]byte, n)
		r.Read(packet)
		for _, size := range []int{1, 2, 4, 8} {
			last := 0
			for _, b := range packet[n-size:] {
				last = last<<8 | int(b)
			}
			load := api.Ins{Op: api.Load, Src: 1, Off: -size, Size: size}
			end := api.Ins{Op: api.Add, Dst: 1, Src: 2}
			does(t, []api.Ins{end, load, exit}, packet, api.Outcome{Verdict: uint64(last), Steps: 3})
			load.Off++
			does(t, []api.Ins{end, load, exit}, packet, api.Outcome{Err: api.ErrBounds, At: 1, Steps: 2})
			for _, load.Off = range []int{0, 1, 32766, 32767, n - size, n - size + 1} {
				if load.Off < 1<<15 {
					plainly(t, []api.Ins{load, exit}, packet)
				}
			}
		}
	}
}

// P10.2: puts of the stack, and loads, of each size at all places around its
// ends, by Off and by N: the first and the last place, one past them, across.
func TestStackPlaces(t *testing.T) {
	places := []int{-1 << 15, -1000, 100, 511, 512, 513, 1<<15 - 1}
	for d := -10; d <= 10; d++ {
		places = append(places, -512+d, d)
	}
	for _, size := range []int{1, 2, 4, 8} {
		for _, at := range places {
			in := -512 <= at && at <= -size
			for _, moved := range []int{0, at, -600, 600} {
				off := at - moved
				if off != int(int16(off)) {
					continue
				}
				move := []api.Ins{{Op: api.Mov, Dst: 3, Src: 10}, {Op: api.Add, Dst: 3, UseImm: true, Imm: moved}}
				put := api.Ins{Op: api.Put, Dst: 3, Off: off, UseImm: true, Imm: 0x15263748, Size: size}
				load := api.Ins{Op: api.Load, Src: 3, Off: off, Size: size}
				want := api.Outcome{Err: api.ErrBounds, At: 2, Steps: 3}
				if in {
					want = api.Outcome{Verdict: 0x15263748 & (1<<(8*size) - 1), Steps: 5}
				}
				does(t, slices.Concat(move, []api.Ins{put, load, exit}), fourteen(), want)
				if in {
					want = api.Outcome{Err: api.ErrUnset, At: 2, Steps: 3}
				}
				does(t, slices.Concat(move, []api.Ins{load, exit}), fourteen(), want)
			}
		}
	}
}

// full is puts that set the whole stack, each byte to what its place tells.
func full() []api.Ins {
	var l []api.Ins
	for at := -512; at < 0; at++ {
		l = append(l, api.Ins{Op: api.Put, Dst: 10, Off: at, UseImm: true, Imm: mark(at), Size: 1})
	}
	return l
}

// mark is the byte that full puts at that place.
func mark(at int) int { return (at*7 + at*at/64) & 0xff }

// P10.2: a stack that is all set is loaded at each place, the highest byte
// first; outside of it is ErrBounds still.
func TestFullStack(t *testing.T) {
	l := full()
	for _, size := range []int{1, 2, 4, 8} {
		for at := -516; at <= 4; at++ {
			want := api.Outcome{Err: api.ErrBounds, At: 512, Steps: 513}
			if -512 <= at && at <= -size {
				v := uint64(0)
				for k := range size {
					v = v<<8 | uint64(mark(at+k))
				}
				want = api.Outcome{Verdict: v, Steps: 514}
			}
			does(t, append(slices.Clone(l), api.Ins{Op: api.Load, Src: 10, Off: at, Size: size}, exit), nil, want)
		}
	}
}

// P10.2: a put changes its own bytes alone, at each place, and cuts what it
// puts; the lowest bytes are put, the highest of these first.
func TestPutsStay(t *testing.T) {
	l := full()
	const v = 0xf1e2d3c4b5a69788
	for _, size := range []int{1, 2, 4, 8} {
		for _, at := range []int{-512, -511, -509, -505, -300, -256, -9, -size - 1, -size} {
			put := lines(t, numberIn(3, v), "exit")
			put[4] = api.Ins{Op: api.Put, Dst: 10, Src: 3, Off: at, Size: size}
			for seen := max(-512, at-9); seen < min(0, at+size+9); seen++ {
				want := uint64(mark(seen))
				if k := seen - at; 0 <= k && k < size {
					want = v >> (8 * (size - 1 - k)) & 0xff
				}
				does(t, slices.Concat(l, put, []api.Ins{{Op: api.Load, Src: 10, Off: seen, Size: 1}, exit}), nil,
					api.Outcome{Verdict: want, Steps: 519})
			}
		}
	}
}

// P10.2: a put of each size, by hand, of a register and of Imm.
func TestPutByHand(t *testing.T) {
	const all = "load8 r0, [r10 - 8] / exit"
	clear := "put8 [r10 - 8], 0 / " + numberIn(3, 0x1122334455667788)
	tells(t, nil, 0x8800000000000000, clear, "put1 [r10 - 8], r3", all)
	tells(t, nil, 0x0077880000000000, clear, "put2 [r10 - 7], r3", all)
	tells(t, nil, 0x0000000055667788, clear, "put4 [r10 - 4], r3", all)
	tells(t, nil, 0x1122334455667788, clear, "put8 [r10 - 8], r3", all)
	tells(t, nil, 0x00000000000000ff, clear, "put1 [r10 - 1], -1", all)
	tells(t, nil, 0x000000000000fffe, clear, "put2 [r10 - 2], -2", all)
	tells(t, nil, 0x00fffffffe000000, clear, "put4 [r10 - 7], -2", all)
	tells(t, nil, 0xfffffffffffffffe, clear, "put8 [r10 - 8], -2", all)
	tells(t, nil, 0xffffffff80000000, clear, "put8 [r10 - 8], -2147483648", all)
	tells(t, nil, 0x000000007fffffff, clear, "put8 [r10 - 8], 2147483647", all)
	tells(t, nil, 0x8000000000000000, clear, "put4 [r10 - 8], -2147483648", all)
	tells(t, fourteen(), 14, "put8 [r10 - 8], r2", all)
}

// P10.2: of eight bytes each choice is set: a load is ErrUnset, unless all that
// it asks for are.
func TestSomeSet(t *testing.T) {
	for _, end := range []int{-504, -260, 0} {
		for mask := range 256 {
			var puts []api.Ins
			for k := range 8 {
				if mask>>k&1 == 1 {
					puts = append(puts, api.Ins{Op: api.Put, Dst: 10, Off: end - 8 + k, UseImm: true, Imm: 16 + k, Size: 1})
				}
			}
			for _, size := range []int{1, 2, 4, 8} {
				for from := range 9 - size {
					want := api.Outcome{Verdict: 0, Steps: len(puts) + 2}
					for k := from; k < from+size; k++ {
						want.Verdict = want.Verdict<<8 | uint64(16+k)
						if mask>>k&1 == 0 {
							want = api.Outcome{Err: api.ErrUnset, At: len(puts), Steps: len(puts) + 1}
							break
						}
					}
					load := api.Ins{Op: api.Load, Src: 10, Off: end - 8 + from, Size: size}
					does(t, slices.Concat(puts, []api.Ins{load, exit}), nil, want)
				}
			}
		}
	}
}

// P10.2: Load and Put of values that they may not take, in the order of the
// errors.
func TestLoadPutOrder(t *testing.T) {
	p := fourteen()
	fails(t, p, api.ErrKind, 0, "load1 r0, [r2 + 0] / exit")
	fails(t, p, api.ErrKind, 1, "mov r3, -8 / load1 r0, [r3 + 0] / exit")
	fails(t, p, api.ErrUnset, 0, "put1 [r3 + 0], r4 / exit")
	fails(t, p, api.ErrUnset, 0, "put1 [r1 + 0], r4 / exit")
	fails(t, p, api.ErrUnset, 0, "put1 [r2 + 0], r4 / exit")
	fails(t, p, api.ErrUnset, 0, "put1 [r10 + 0], r4 / exit")
	fails(t, p, api.ErrUnset, 0, "put1 [r4 + 0], r1 / exit")
	fails(t, p, api.ErrUnset, 0, "put1 [r4 + 0], 1 / exit")
	for _, off := range []string{"+ 0", "- 1", "+ 13", "+ 30000"} {
		fails(t, p, api.ErrPointer, 0, "put1 [r1 "+off+"], 1 / exit")
		fails(t, p, api.ErrPointer, 0, "put1 [r1 "+off+"], r2 / exit")
		fails(t, p, api.ErrPointer, 0, "put8 [r1 "+off+"], r1 / exit")
		fails(t, p, api.ErrPointer, 0, "put8 [r1 "+off+"], r10 / exit")
		fails(t, p, api.ErrKind, 0, "put1 [r2 "+off+"], 1 / exit")
		fails(t, p, api.ErrKind, 0, "put1 [r2 "+off+"], r2 / exit")
		fails(t, p, api.ErrKind, 0, "put1 [r2 "+off+"], r1 / exit")
	}
	for _, off := range []string{"+ 0", "- 8", "- 512", "- 513", "+ 8"} {
		fails(t, p, api.ErrKind, 0, "put8 [r10 "+off+"], r1 / exit")
		fails(t, p, api.ErrKind, 0, "put8 [r10 "+off+"], r10 / exit")
	}
	// What is both outside and not set is outside.
	fails(t, p, api.ErrBounds, 0, "load8 r0, [r10 - 7] / exit")
	fails(t, p, api.ErrBounds, 0, "load8 r0, [r10 - 513] / exit")
	fails(t, p, api.ErrBounds, 1, "put1 [r10 - 1], 3 / load2 r0, [r10 - 1] / exit")
	// The stack and the packet are two.
	fails(t, p, api.ErrBounds, 1, "put1 [r10 - 1], 3 / load1 r0, [r1 - 1] / exit")
	fails(t, p, api.ErrBounds, 0, "load1 r0, [r10 + 0] / exit")
}

// P10.2: Exit asks for r0 alone.
func TestExit(t *testing.T) {
	fails(t, fourteen(), api.ErrUnset, 1, "mov r3, 1 / exit")
	fails(t, fourteen(), api.ErrKind, 1, "mov r0, r1 / exit")
	fails(t, fourteen(), api.ErrKind, 1, "mov r0, r10 / exit")
	for _, n := range []uint64{0, 1, math.MaxUint32, 1 << 32, 1 << 63, math.MaxUint64} {
		tells(t, fourteen(), n, numberIn(0, n), "exit")
	}
	for _, reg := range []string{"r1", "r2", "r3", "r4", "r5", "r6", "r7", "r8", "r9"} {
		tells(t, fourteen(), 77, "mov "+reg+", 77 / mov r0, "+reg+" / exit")
	}
	// What r0 was ahead plays no part.
	tells(t, fourteen(), 3, "mov r0, r1 / mov r0, 3 / exit")
	fails(t, fourteen(), api.ErrKind, 2, "mov r0, 3 / mov r0, r1 / exit")
}

// P10.1: packets of no bytes, nil ones too, the longest one, and those that are
// longer.
func TestPacketEnds(t *testing.T) {
	whole := make([]byte, 1<<17)
	for _, none := range [][]byte{nil, {}, whole[:0], whole[len(whole):]} {
		tells(t, none, 0, "mov r0, r2 / exit")
		fails(t, none, api.ErrBounds, 0, "load1 r0, [r1 + 0] / exit")
		fails(t, none, api.ErrBounds, 0, "load8 r0, [r1 - 8] / exit")
		tells(t, none, 5, "put1 [r10 - 1], 5 / load1 r0, [r10 - 1] / exit")
	}
	for _, n := range []int{65534, 65535} {
		tells(t, whole[:n], uint64(n), "mov r0, r2 / exit")
	}
	for _, n := range []int{65536, 65537, 65536 + 14, 1 << 17} {
		for _, s := range []string{"mov r0, 1 / exit", "exit", "load1 r0, [r1 + 0] / exit", "jump +0 / exit"} {
			does(t, lines(t, s), whole[:n], api.Outcome{Err: api.ErrLong})
		}
	}
	// What stands behind the packet's length is none of it.
	packet := fourteen()
	tells(t, packet[:3], 3, "mov r0, r2 / exit")
	fails(t, packet[:3], api.ErrBounds, 0, "load1 r0, [r1 + 3] / exit")
	fails(t, packet[:3], api.ErrBounds, 0, "load4 r0, [r1 + 0] / exit")
}

// P10.1: a fault of shape comes ahead of all, a packet that is too long among
// them; no step is begun.
func TestShape(t *testing.T) {
	mov := api.Ins{Op: api.Mov, UseImm: true, Imm: 1}
	unset := api.Ins{Op: api.Mov, Src: 3}
	jump := func(off int) api.Ins { return api.Ins{Op: api.Jump, Off: off} }
	long := slices.Repeat([]api.Ins{mov}, 4096)
	for _, c := range []struct {
		l []api.Ins
		f api.Fault
	}{
		{nil, api.Fault{Err: api.ErrNone}},
		{[]api.Ins{}, api.Fault{Err: api.ErrNone}},
		{append(slices.Clone(long), exit), api.Fault{Err: api.ErrLong}},
		{make([]api.Ins, 5000), api.Fault{Err: api.ErrLong}},
		{[]api.Ins{{}}, api.Fault{Err: api.ErrShape}},
		{[]api.Ins{unset, {Op: 29}, exit}, api.Fault{Err: api.ErrShape, At: 1}},
		{[]api.Ins{unset, {Op: 255}}, api.Fault{Err: api.ErrShape, At: 1}},
		{[]api.Ins{{Op: api.Mov, Dst: 10, UseImm: true}, exit}, api.Fault{Err: api.ErrShape}},
		{[]api.Ins{{Op: api.Mov, Dst: -1, UseImm: true}, exit}, api.Fault{Err: api.ErrShape}},
		{[]api.Ins{{Op: api.Mov, Src: 11}, exit}, api.Fault{Err: api.ErrShape}},
		{[]api.Ins{{Op: api.Mov, Src: math.MaxInt}, exit}, api.Fault{Err: api.ErrShape}},
		{[]api.Ins{{Op: api.Mov, UseImm: true, Imm: 1 << 31}, exit}, api.Fault{Err: api.ErrShape}},
		{[]api.Ins{{Op: api.Load, Src: 1, Size: 3}, exit}, api.Fault{Err: api.ErrShape}},
		{[]api.Ins{{Op: api.Put, Dst: 10, Src: 2, Size: 16}, exit}, api.Fault{Err: api.ErrShape}},
		{[]api.Ins{{Op: api.Load, Src: 1, Size: 1, Off: 1 << 15}, exit}, api.Fault{Err: api.ErrShape}},
		{[]api.Ins{mov, {Op: api.Exit, Narrow: true}}, api.Fault{Err: api.ErrShape, At: 1}},
		{[]api.Ins{unset, jump(-1), exit}, api.Fault{Err: api.ErrBack, At: 1}},
		{[]api.Ins{unset, jump(-2)}, api.Fault{Err: api.ErrBack, At: 1}},
		{[]api.Ins{unset, jump(1), exit}, api.Fault{Err: api.ErrFar, At: 1}},
		{[]api.Ins{unset, {Op: api.Jeq, Off: 9}, exit}, api.Fault{Err: api.ErrFar, At: 1}},
		{[]api.Ins{mov}, api.Fault{Err: api.ErrEnd}},
		{long, api.Fault{Err: api.ErrEnd, At: 4095}},
		{[]api.Ins{exit, mov}, api.Fault{Err: api.ErrEnd, At: 1}},
		{[]api.Ins{exit, exit}, api.Fault{Err: api.ErrDead, At: 1}},
		{[]api.Ins{unset, jump(1), mov, exit}, api.Fault{Err: api.ErrDead, At: 2}},
	} {
		for _, n := range []int{0, 14, 65535, 65536, 100000} {
			does(t, c.l, make([]byte, n), api.Outcome{Err: c.f.Err, At: c.f.At})
		}
	}
}

// P10.1, P10.3: Steps, of filters of each length, and of a fault at each place.
func TestSteps(t *testing.T) {
	mov := api.Ins{Op: api.Mov, UseImm: true, Imm: 9}
	for _, n := range []int{1, 2, 3, 10, 100, 4095, 4096} {
		l := append(slices.Repeat([]api.Ins{mov}, n-1), exit)
		if n > 1 {
			does(t, l, nil, api.Outcome{Verdict: 9, Steps: n})
		}
		for _, at := range []int{0, 1, 2, n / 2, n - 2} {
			if at >= 0 && at < n-1 {
				does(t, with(l, at, api.Ins{Op: api.Add, Dst: 3, Src: 4}), nil, api.Outcome{Err: api.ErrUnset, At: at, Steps: at + 1})
			}
		}
	}
	does(t, with(append(slices.Repeat([]api.Ins{mov}, 4095), exit), 4094, api.Ins{Op: api.Mov, Src: 1}), nil,
		api.Outcome{Err: api.ErrKind, At: 4095, Steps: 4096})
	// Over all that a jump goes past, no step is begun.
	for _, off := range []int{0, 1, 2, 100, 4092, 4093} {
		l := append(slices.Repeat([]api.Ins{mov}, 4095), exit)
		l[1] = api.Ins{Op: api.Jeq, Dst: 2, UseImm: true, Off: off}
		does(t, l, nil, api.Outcome{Verdict: 9, Steps: 4096 - off})
		does(t, l, []byte{1}, api.Outcome{Verdict: 9, Steps: 4096})
	}
	// The fault's place is not how many steps came ahead of it.
	does(t, lines(t, "jeq r2, 0, +3 / mov r0, 1 / mov r0, 1 / exit / mov r0, r7 / exit"), nil,
		api.Outcome{Err: api.ErrUnset, At: 4, Steps: 2})
}

// P10.2, P10.3: filters of 4096 instructions that reckon along all of them.
func TestLongest(t *testing.T) {
	add := api.Ins{Op: api.Add, UseImm: true, Imm: 3}
	l := slices.Concat([]api.Ins{{Op: api.Mov, UseImm: true}}, slices.Repeat([]api.Ins{add}, 4094), []api.Ins{exit})
	does(t, l, nil, api.Outcome{Verdict: 3 * 4094, Steps: 4096})
	jumps := append(slices.Repeat([]api.Ins{{Op: api.Jump}}, 4094), api.Ins{Op: api.Mov, Src: 2}, exit)
	does(t, jumps, fourteen(), api.Outcome{Verdict: 14, Steps: 4096})
	// Every other one is gone past.
	var past []api.Ins
	for range 2047 {
		past = append(past, api.Ins{Op: api.Jeq, Dst: 2, UseImm: true, Imm: 14, Off: 1}, api.Ins{Op: api.Mov, Src: 9})
	}
	past = append(past, api.Ins{Op: api.Mov, Src: 2}, exit)
	does(t, past, fourteen(), api.Outcome{Verdict: 14, Steps: 2049})
	does(t, past, fourteen()[:13], api.Outcome{Err: api.ErrUnset, At: 1, Steps: 2})
}

// P10.1 to P10.3: drawn filters end as the plain way says, in at most as many
// steps as they have instructions.
func TestDrawn(t *testing.T) {
	r := rand.New(rand.NewSource(4))
	seen, rounds := map[api.Errno]int{}, 20000
	if testing.Short() {
		rounds = 4000
	}
	steps := 0
	for range rounds {
		packet := drawPacket(r)
		l := drawFilter(r, 1+r.Intn(40), packet)
		if f := shape.Check(l); f != (api.Fault{}) {
			t.Fatalf("%s was drawn, which has the fault %+v", shown(l), f)
		}
		o := plainly(t, l, packet)
		if o.Steps > len(l) || o.Steps < 1 {
			t.Fatalf("%s: %d steps", shown(l), o.Steps)
		}
		seen[o.Err]++
		steps += o.Steps
		plainly(t, l, drawPacket(r))
		plainly(t, with(l, r.Intn(len(l)), drawStraight(r, packet)), packet)
	}
	for _, e := range []api.Errno{api.OK, api.ErrUnset, api.ErrKind, api.ErrBounds, api.ErrDivide, api.ErrPointer} {
		if seen[e] < 20 {
			t.Errorf("%d was met %d times only: %v", e, seen[e], seen)
		}
	}
	if steps < 8*rounds {
		t.Errorf("%d filters went only %d steps", rounds, steps)
	}
}

// P10.1, P10.2: drawn filters of most instructions.
func TestDrawnLong(t *testing.T) {
	r := rand.New(rand.NewSource(5))
	for range 12 {
		packet := drawPacket(r)
		for _, n := range []int{4096, 500 + r.Intn(3000)} {
			plainly(t, drawFilter(r, n, packet), packet)
		}
	}
}

// R3, R4: nothing is kept from run to run: neither what the stack had, nor
// what a packet or a filter was.
func TestNothingKept(t *testing.T) {
	tells(t, fourteen(), 5, "put8 [r10 - 8], 5 / mov r3, 1 / load8 r0, [r10 - 8] / exit")
	fails(t, fourteen(), api.ErrUnset, 0, "load8 r0, [r10 - 8] / exit")
	fails(t, fourteen(), api.ErrUnset, 0, "mov r0, r3 / exit")
	packet, l := fourteen(), lines(t, "load2 r0, [r1 + 12] / exit")
	does(t, l, packet, api.Outcome{Verdict: 2054, Steps: 2})
	packet[13] = 7
	does(t, l, packet, api.Outcome{Verdict: 2055, Steps: 2})
	l[0].Size = 1
	does(t, l, packet, api.Outcome{Verdict: 8, Steps: 2})
}

// R4: one filter over one packet ends in one way, whoever else runs.
func TestAlike(t *testing.T) {
	r := rand.New(rand.NewSource(6))
	packet := drawPacket(r)
	var wait sync.WaitGroup
	for range 20 {
		l := drawFilter(r, 60, packet)
		want := plainRun(l, packet)
		for range 4 {
			wait.Go(func() {
				for range 20 {
					if o := Run(l, packet); o != want {
						t.Errorf("%s: %+v, not %+v", shown(l), o, want)
					}
				}
			})
		}
	}
	wait.Wait()
}

// R1, P10.1 to P10.3: whatever the instructions' bytes and the packet.
func FuzzRun(f *testing.F) {
	r := rand.New(rand.NewSource(7))
	for range 20 {
		packet := drawPacket(r)
		b, _ := ins.Put(drawFilter(r, 1+r.Intn(30), packet))
		f.Add(b, packet)
	}
	f.Fuzz(func(t *testing.T, b, packet []byte) {
		var l []api.Ins
		for eight := range slices.Chunk(b, 8) {
			if i, e := ins.Get(eight); e == api.OK {
				l = append(l, i...)
			}
		}
		plainly(t, l, packet)
	})
}
