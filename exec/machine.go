package exec

import (
	"barbican/alu"
	"barbican/api"
	"barbican/packet"
)

// The registers that have a meaning of their own.
const (
	verdictReg = 0
	packetReg  = 1
	lengthReg  = 2
	frameReg   = 10
)

// machine is what a filter's instructions work on.
type machine struct {
	regs    [api.Regs]value
	packet  []byte
	stack   stack
	next    int // the place of the instruction that is done next
	ended   bool
	verdict uint64
}

// work is what an instruction does to a machine; it tells its fault, or OK.
type work func(*machine, api.Ins) api.Errno

// machineOf is the machine over the packet b, ahead of all steps.
func machineOf(b []byte) *machine {
	m := &machine{packet: b}
	m.regs[packetReg] = value{kind: api.Packet}
	m.regs[lengthReg] = number(uint64(len(b)))
	m.regs[frameReg] = value{kind: api.Frame}
	return m
}

// run does the instructions of l, which is well formed, up to an Exit or a
// fault. It ends, as no jump goes back.
func (m *machine) run(l []api.Ins) api.Outcome {
	all := works()
	steps := 0
	for !m.ended {
		at := m.next
		m.next++
		steps++
		if e := all[l[at].Op](m, l[at]); e != api.OK {
			return api.Outcome{Err: e, At: at, Steps: steps}
		}
	}
	return api.Outcome{Verdict: m.verdict, Steps: steps}
}

// works is what each Op does.
func works() map[api.Op]work {
	all := map[api.Op]work{
		api.Mov:  (*machine).move,
		api.Neg:  (*machine).negate,
		api.Load: (*machine).load,
		api.Put:  (*machine).put,
		api.Jump: (*machine).jump,
		api.Exit: (*machine).exit,
	}
	for op := api.Add; op <= api.Sar; op++ {
		all[op] = (*machine).reckon
	}
	for op := api.Jeq; op <= api.Jset; op++ {
		all[op] = (*machine).branch
	}
	return all
}

// second is the second part of i.
func (m *machine) second(i api.Ins) value {
	if i.UseImm {
		return number(alu.Wide(i.Imm))
	}
	return m.regs[i.Src]
}

// reckon makes a number of two, or moves a pointer, which stays of its kind.
func (m *machine) reckon(i api.Ins) (e api.Errno) {
	a, b := m.regs[i.Dst], m.second(i)
	if e = ask(a, b); e != api.OK {
		return e
	}
	if b.points() || a.points() && !movesPointers(i) {
		return api.ErrPointer
	}
	m.regs[i.Dst].n, e = alu.Do(i.Op, i.Narrow, a.n, b.n)
	return e
}

// movesPointers tells whether i may reckon with a pointer and a number.
func movesPointers(i api.Ins) bool {
	return !i.Narrow && (i.Op == api.Add || i.Op == api.Sub)
}

// move hands a value on; only a number is cut.
func (m *machine) move(i api.Ins) (e api.Errno) {
	v := m.second(i)
	if e = ask(v); e != api.OK {
		return e
	}
	if v.points() && i.Narrow {
		return api.ErrPointer
	}
	v.n, e = alu.Do(i.Op, i.Narrow, 0, v.n)
	m.regs[i.Dst] = v
	return e
}

func (m *machine) negate(i api.Ins) (e api.Errno) {
	v := m.regs[i.Dst]
	if e = ask(v); e != api.OK {
		return e
	}
	if v.points() {
		return api.ErrPointer
	}
	m.regs[i.Dst].n, e = alu.Do(i.Op, i.Narrow, v.n, 0)
	return e
}

func (m *machine) load(i api.Ins) api.Errno {
	from := m.regs[i.Src]
	if e := ask(from); e != api.OK {
		return e
	}
	n, e := m.read(from, i.Off, i.Size)
	m.regs[i.Dst] = number(n)
	return e
}

// read is the number that stands in the packet, or in the stack, off more than
// from points at.
func (m *machine) read(from value, off, size int) (uint64, api.Errno) {
	switch from.kind {
	case api.Packet:
		return packet.Get(m.packet, from.place(off), size)
	case api.Frame:
		return m.stack.get(from.place(off), size)
	}
	return 0, api.ErrKind
}

// put sets bytes of the stack; the packet stays.
func (m *machine) put(i api.Ins) api.Errno {
	to, v := m.regs[i.Dst], m.second(i)
	if e := ask(to, v); e != api.OK {
		return e
	}
	switch {
	case to.kind == api.Packet:
		return api.ErrPointer
	case to.kind == api.Number || v.points():
		return api.ErrKind
	}
	return m.stack.put(to.place(i.Off), i.Size, v.n)
}

func (m *machine) jump(i api.Ins) api.Errno {
	m.next += i.Off
	return api.OK
}

// branch jumps, if what it asks of two numbers is so.
func (m *machine) branch(i api.Ins) api.Errno {
	a, b := m.regs[i.Dst], m.second(i)
	if e := ask(a, b); e != api.OK {
		return e
	}
	if a.points() || b.points() {
		return api.ErrKind
	}
	yes, e := alu.Is(i.Op, i.Narrow, a.n, b.n)
	if yes {
		m.next += i.Off
	}
	return e
}

func (m *machine) exit(api.Ins) api.Errno {
	v := m.regs[verdictReg]
	if e := ask(v); e != api.OK {
		return e
	}
	if v.points() {
		return api.ErrKind
	}
	m.ended, m.verdict = true, v.n
	return api.OK
}
