package exec

import (
	"math/big"
	"math/rand"
	"slices"

	"barbican/alu"
	"barbican/api"
	"barbican/packet"
	"barbican/shape"
)

// plainValue is what a register has; pointers and numbers alike are kept as
// numbers of any length, from 0 to 2^64 - 1.
type plainValue struct {
	kind api.ValueKind
	n    *big.Int
}

func plainOf(kind api.ValueKind, n uint64) plainValue {
	return plainValue{kind, new(big.Int).SetUint64(n)}
}

func (v plainValue) number() bool { return v.kind == api.Number }

func (v plainValue) pointer() bool { return v.kind == api.Packet || v.kind == api.Frame }

// at is N, read as a signed number, and off more, with no end to either side.
func (v plainValue) at(off int) *big.Int {
	n := new(big.Int).Set(v.n)
	if n.BitLen() == 64 {
		n.Sub(n, new(big.Int).Lsh(big.NewInt(1), 64))
	}
	return n.Add(n, big.NewInt(int64(off)))
}

// plain is the chapter's machine: registers that are not in the map are Unset,
// bytes of the stack that are not in it are not set.
type plain struct {
	regs   map[int]plainValue
	packet []byte
	stack  map[int]byte
	next   int
}

func plainOver(packet []byte) *plain {
	return &plain{
		regs: map[int]plainValue{
			1:  plainOf(api.Packet, 0),
			2:  plainOf(api.Number, uint64(len(packet))),
			10: plainOf(api.Frame, 0),
		},
		packet: packet,
		stack:  map[int]byte{},
	}
}

// plainRun is P10.1.
func plainRun(l []api.Ins, packet []byte) api.Outcome {
	if f := shape.Check(l); f != (api.Fault{}) {
		return api.Outcome{Err: f.Err, At: f.At}
	}
	if len(packet) > 65535 {
		return api.Outcome{Err: api.ErrLong}
	}
	p := plainOver(packet)
	for steps := 1; ; steps++ {
		at := p.next
		if e := p.step(l[at]); e != api.OK {
			return api.Outcome{Err: e, At: at, Steps: steps}
		}
		if l[at].Op == api.Exit {
			return api.Outcome{Verdict: p.regs[0].n.Uint64(), Steps: steps}
		}
	}
}

// unset tells whether one of the registers is.
func (p *plain) unset(regs ...int) bool {
	for _, reg := range regs {
		if p.regs[reg].kind == api.Unset {
			return true
		}
	}
	return false
}

// second is the second part, and the register that it is, if it is one.
func (p *plain) second(i api.Ins) (plainValue, []int) {
	if i.UseImm {
		return plainOf(api.Number, alu.Wide(i.Imm)), nil
	}
	return p.regs[i.Src], []int{i.Src}
}

// step is P10.2, row by row.
func (p *plain) step(i api.Ins) api.Errno {
	p.next++
	dst := p.regs[i.Dst]
	two, reg := p.second(i)
	both := append([]int{i.Dst}, reg...)
	switch {
	case i.Op >= api.Add && i.Op <= api.Sar:
		if p.unset(both...) {
			return api.ErrUnset
		}
		return p.reckon(i, dst, two)
	case i.Op == api.Mov:
		if p.unset(reg...) {
			return api.ErrUnset
		}
		if i.Narrow && two.pointer() {
			return api.ErrPointer
		}
		if i.Narrow {
			two = plainOf(api.Number, two.n.Uint64()%(1<<32))
		}
		p.regs[i.Dst] = two
	case i.Op == api.Neg:
		if p.unset(i.Dst) {
			return api.ErrUnset
		}
		if dst.pointer() {
			return api.ErrPointer
		}
		n, _ := alu.Do(api.Neg, i.Narrow, dst.n.Uint64(), 0)
		p.regs[i.Dst] = plainOf(api.Number, n)
	case i.Op == api.Load:
		if p.unset(i.Src) {
			return api.ErrUnset
		}
		return p.load(i, p.regs[i.Src])
	case i.Op == api.Put:
		if p.unset(both...) {
			return api.ErrUnset
		}
		return p.put(i, dst, two)
	case i.Op == api.Jump:
		p.next += i.Off
	case i.Op == api.Exit:
		if p.unset(0) {
			return api.ErrUnset
		}
		if p.regs[0].pointer() {
			return api.ErrKind
		}
	default:
		if p.unset(both...) {
			return api.ErrUnset
		}
		if !dst.number() || !two.number() {
			return api.ErrKind
		}
		if yes, _ := alu.Is(i.Op, i.Narrow, dst.n.Uint64(), two.n.Uint64()); yes {
			p.next += i.Off
		}
	}
	return api.OK
}

func (p *plain) reckon(i api.Ins, dst, two plainValue) api.Errno {
	switch {
	case dst.number() && two.number():
		n, e := alu.Do(i.Op, i.Narrow, dst.n.Uint64(), two.n.Uint64())
		if e == api.OK {
			p.regs[i.Dst] = plainOf(api.Number, n)
		}
		return e
	case dst.pointer() && two.number() && !i.Narrow && (i.Op == api.Add || i.Op == api.Sub):
		n := new(big.Int)
		if i.Op == api.Add {
			n.Add(dst.n, two.n)
		} else {
			n.Sub(dst.n, two.n)
		}
		n.Mod(n, new(big.Int).Lsh(big.NewInt(1), 64))
		p.regs[i.Dst] = plainValue{dst.kind, n}
		return api.OK
	}
	return api.ErrPointer
}

// place is where on the stack Size bytes stand, or false.
func (p *plain) place(v plainValue, i api.Ins) (int, bool) {
	at := v.at(i.Off)
	end := new(big.Int).Add(at, big.NewInt(int64(i.Size)))
	if at.Cmp(big.NewInt(-512)) < 0 || end.Sign() > 0 {
		return 0, false
	}
	return int(at.Int64()), true
}

func (p *plain) load(i api.Ins, src plainValue) api.Errno {
	if src.number() {
		return api.ErrKind
	}
	if src.kind == api.Packet {
		at := src.at(i.Off)
		if !at.IsInt64() {
			return api.ErrBounds
		}
		n, e := packet.Get(p.packet, at.Int64(), i.Size)
		if e == api.OK {
			p.regs[i.Dst] = plainOf(api.Number, n)
		}
		return e
	}
	at, in := p.place(src, i)
	if !in {
		return api.ErrBounds
	}
	var row []byte
	for k := range i.Size {
		b, set := p.stack[at+k]
		if !set {
			return api.ErrUnset
		}
		row = append(row, b)
	}
	p.regs[i.Dst] = plainValue{api.Number, new(big.Int).SetBytes(row)}
	return api.OK
}

func (p *plain) put(i api.Ins, dst, two plainValue) api.Errno {
	if dst.kind == api.Packet {
		return api.ErrPointer
	}
	if dst.number() || two.pointer() {
		return api.ErrKind
	}
	at, in := p.place(dst, i)
	if !in {
		return api.ErrBounds
	}
	whole := two.n.FillBytes(make([]byte, 8))
	for k, b := range whole[8-i.Size:] {
		p.stack[at+k] = b
	}
	return api.OK
}

// copied is p, to be tried on.
func (p *plain) copied() *plain {
	c := *p
	c.regs, c.stack = map[int]plainValue{}, map[int]byte{}
	for reg, v := range p.regs {
		c.regs[reg] = v
	}
	for at, b := range p.stack {
		c.stack[at] = b
	}
	return &c
}

// drawOff is near the stack's ends, the packet's, or anywhere.
func drawOff(r *rand.Rand, packet []byte) int {
	switch r.Intn(8) {
	case 0:
		return r.Intn(1<<16) - 1<<15
	case 1:
		return r.Intn(16) - 520
	case 2:
		return r.Intn(20) - 4
	case 3, 4:
		return -r.Intn(24)
	}
	return min(r.Intn(len(packet)+2), 1<<15-1)
}

// drawImm is small, at its ends, or anything.
func drawImm(r *rand.Rand) int {
	switch r.Intn(4) {
	case 0:
		return r.Intn(1<<32) - 1<<31
	case 1:
		return []int{-1 << 31, 1<<31 - 1, 0, -1, 1, 63, 64, 31, 32}[r.Intn(9)]
	}
	return r.Intn(40) - 12
}

// drawSecond gives i a second part.
func drawSecond(r *rand.Rand, i api.Ins) api.Ins {
	if r.Intn(2) == 0 {
		i.UseImm, i.Imm = true, drawImm(r)
	} else {
		i.Src = r.Intn(11)
	}
	return i
}

// drawStraight is a right instruction that neither jumps nor ends.
func drawStraight(r *rand.Rand, packet []byte) api.Ins {
	size := 1 << r.Intn(4)
	switch r.Intn(10) {
	case 0, 1:
		return api.Ins{Op: api.Load, Dst: r.Intn(10), Src: r.Intn(11), Off: drawOff(r, packet), Size: size}
	case 2, 3:
		return drawSecond(r, api.Ins{Op: api.Put, Dst: r.Intn(11), Off: drawOff(r, packet), Size: size})
	case 4:
		return api.Ins{Op: api.Neg, Dst: r.Intn(10), Narrow: r.Intn(2) == 0}
	case 5:
		return drawSecond(r, api.Ins{Op: api.Mov, Dst: r.Intn(10), Narrow: r.Intn(4) == 0})
	case 6, 7:
		return drawSecond(r, api.Ins{Op: api.Add + api.Op(r.Intn(2)), Dst: r.Intn(10), Narrow: r.Intn(4) == 0})
	}
	return drawSecond(r, api.Ins{Op: api.Add + api.Op(r.Intn(11)), Dst: r.Intn(10), Narrow: r.Intn(2) == 0})
}

// drawIns is an instruction for a place with so many behind it; if it must fall
// through, it does so, or may.
func drawIns(r *rand.Rand, packet []byte, behind int, falls bool) api.Ins {
	off := r.Intn(min(behind, 1<<r.Intn(6)))
	switch r.Intn(12) {
	case 0:
		if !falls {
			return api.Ins{Op: api.Exit}
		}
	case 1:
		if !falls {
			return api.Ins{Op: api.Jump, Off: off}
		}
	case 2, 3, 4:
		return drawSecond(r, api.Ins{Op: api.Jeq + api.Op(r.Intn(11)), Dst: r.Intn(11), Narrow: r.Intn(2) == 0, Off: off})
	}
	return drawStraight(r, packet)
}

// oneOf is of how many such instructions, each of which tells e, one is kept, in
// a filter of n.
func oneOf(e api.Errno, i api.Ins, n int) int {
	switch {
	case e == api.OK && i.Op != api.Exit:
		return 1
	case e == api.ErrDivide: // few come
		return 2
	case e == api.ErrBounds || e == api.ErrPointer:
		return 2 * n
	}
	return 20 * n
}

// drawFilter is a well formed filter of n instructions. What would fail on the
// way that it goes over the packet is mostly drawn anew, so that it goes far.
func drawFilter(r *rand.Rand, n int, packet []byte) []api.Ins {
	l := make([]api.Ins, n)
	come := make([]bool, n+1)
	p := plainOver(packet)
	for at := range n - 1 {
		i := drawIns(r, packet, n-at-1, !come[at+1])
		if at == 0 && r.Intn(10) > 0 {
			// Without an r0 that is set hardly one would tell a verdict.
			i = api.Ins{Op: api.Mov, Src: []int{1, 2, 2, 2, 10}[r.Intn(5)]}
		}
		if at == p.next {
			for range 40 {
				tried := p.copied()
				if r.Intn(oneOf(tried.step(i), i, n)) == 0 {
					break
				}
				i = drawIns(r, packet, n-at-1, !come[at+1])
			}
			if p.step(i) != api.OK {
				p.next = n // what comes behind is not begun
			}
		}
		l[at] = i
		if i.Op != api.Exit && i.Op != api.Jump {
			come[at+1] = true
		}
		if i.Op >= api.Jump && i.Op <= api.Jset {
			come[at+1+i.Off] = true
		}
	}
	l[n-1] = api.Ins{Op: api.Exit}
	return l
}

// drawPacket is some bytes, mostly few.
func drawPacket(r *rand.Rand) []byte {
	n := []int{0, 1, 7, 8, 9, 14, 60, 700}[r.Intn(8)]
	b := make([]byte, n)
	r.Read(b)
	return b
}

// with is l with another instruction at that place.
func with(l []api.Ins, at int, i api.Ins) []api.Ins {
	l = slices.Clone(l)
	l[at] = i
	return l
}
