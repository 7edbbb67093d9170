package ins

import (
	"bytes"
	"encoding/binary"
	"encoding/hex"
	"math"
	"math/rand"
	"slices"
	"strings"
	"sync"
	"testing"

	"barbican/api"
)

// row is a row of the chapter's table: the kinds, and what is right of them.
type row struct {
	first, last api.Op
	dst         int  // the last register that Dst may be, -1: it has none
	src         bool // Src is a register, and there is no Imm
	second      bool
	off         bool
	size        bool
	narrow      bool
}

// table is the chapter's.
func table() []row {
	return []row{
		{first: api.Add, last: api.Mov, dst: 9, second: true, narrow: true},
		{first: api.Neg, last: api.Neg, dst: 9, narrow: true},
		{first: api.Load, last: api.Load, dst: 9, src: true, off: true, size: true},
		{first: api.Put, last: api.Put, dst: 10, second: true, off: true, size: true},
		{first: api.Jump, last: api.Jump, dst: -1, off: true},
		{first: api.Jeq, last: api.Jset, dst: 10, second: true, off: true, narrow: true},
		{first: api.Exit, last: api.Exit, dst: -1},
	}
}

// rowOf is op's row, if it has one.
func rowOf(op api.Op) (row, bool) {
	for _, r := range table() {
		if r.first <= op && op <= r.last {
			return r, true
		}
	}
	return row{}, false
}

// plainRight is the chapter's word, field by field.
func plainRight(i api.Ins) bool {
	r, there := rowOf(i.Op)
	if !there {
		return false
	}
	dst := i.Dst == 0
	if r.dst >= 0 {
		dst = 0 <= i.Dst && i.Dst <= r.dst
	}
	isRegister := 0 <= i.Src && i.Src <= 10
	part := i.Src == 0 && i.Imm == 0 && !i.UseImm
	if r.src {
		part = isRegister && i.Imm == 0 && !i.UseImm
	}
	if r.second && i.UseImm {
		part = i.Src == 0 && -1<<31 <= i.Imm && i.Imm < 1<<31
	} else if r.second {
		part = isRegister && i.Imm == 0
	}
	off := i.Off == 0
	if r.off {
		off = -1<<15 <= i.Off && i.Off < 1<<15
	}
	size := i.Size == 0
	if r.size {
		size = slices.Contains([]int{1, 2, 4, 8}, i.Size)
	}
	return dst && part && off && size && (r.narrow || !i.Narrow)
}

// plainBytes is the bytes of i, which is right, by the chapter's sums.
func plainBytes(i api.Ins) []byte {
	first := int(i.Op)
	if i.UseImm {
		first += 32
	}
	if i.Narrow {
		first += 64
	}
	if i.Op == api.Load || i.Op == api.Put {
		first += 64 * slices.Index([]int{1, 2, 4, 8}, i.Size)
	}
	off, imm := i.Off, i.Imm
	if off < 0 {
		off += 1 << 16
	}
	if imm < 0 {
		imm += 1 << 32
	}
	b := []byte{byte(first), byte(16*i.Dst + i.Src)}
	b = binary.BigEndian.AppendUint16(b, uint16(off))
	return binary.BigEndian.AppendUint32(b, uint32(imm))
}

// plainNext is the chapter's word of what may come behind l[at].
func plainNext(l []api.Ins, at int) []int {
	if at < 0 || at >= len(l) || !plainRight(l[at]) {
		return nil
	}
	var places []int
	if op := l[at].Op; op != api.Exit && op != api.Jump {
		places = append(places, at+1)
	}
	if op := l[at].Op; op >= api.Jump && op <= api.Jset {
		places = append(places, at+1+l[at].Off)
	}
	slices.Sort(places)
	return slices.Compact(places)
}

// registers, offs, imms and sizes are those at the edges, right ones and not.
func registers() []int {
	return []int{-1, 0, 1, 9, 10, 11, 15, 16, 256, math.MinInt}
}

func offs() []int {
	return []int{0, 1, -1, 1<<15 - 1, -1 << 15, 1 << 15, -1<<15 - 1, 1 << 16}
}

func imms() []int {
	return []int{0, 1, -1, 1<<31 - 1, -1 << 31, 1 << 31, -1<<31 - 1, 1 << 32}
}

func sizes() []int {
	return []int{0, 1, 2, 3, 4, 5, 8, 16, -1, -8}
}

// withFields asks of op with all that is at the edges.
func withFields(op api.Op, dsts []int, ask func(api.Ins)) {
	for _, dst := range dsts {
		for _, src := range registers() {
			for _, off := range offs() {
				for _, imm := range imms() {
					for _, size := range sizes() {
						for flags := range 4 {
							ask(api.Ins{Op: op, Dst: dst, Src: src, Off: off, Imm: imm, Size: size, UseImm: flags&1 != 0, Narrow: flags&2 != 0})
						}
					}
				}
			}
		}
	}
}

// ops are one of each row at least, and some that are none.
func ops() []api.Op {
	return []api.Op{0, api.Add, api.Div, api.Mov, api.Neg, api.Load, api.Put, api.Jump, api.Jeq, api.Jsle, api.Jset, api.Exit, 29, 31, 32, 33, 255}
}

// drawRight is a right instruction of any kind.
func drawRight(r *rand.Rand) api.Ins {
	i := api.Ins{Op: api.Op(1 + r.Intn(28))}
	of, _ := rowOf(i.Op)
	if of.dst >= 0 {
		i.Dst = r.Intn(of.dst + 1)
	}
	if of.second && r.Intn(2) == 0 {
		i.UseImm = true
		i.Imm = (r.Intn(1<<32) - 1<<31) >> r.Intn(32)
	} else if of.second || of.src {
		i.Src = r.Intn(11)
	}
	if of.off {
		i.Off = (r.Intn(1<<16) - 1<<15) >> r.Intn(16)
	}
	if of.size {
		i.Size = 1 << r.Intn(4)
	}
	if of.narrow {
		i.Narrow = r.Intn(2) == 0
	}
	return i
}

// drawList is so many right instructions.
func drawList(r *rand.Rand, n int) []api.Ins {
	l := make([]api.Ins, n)
	for k := range l {
		l[k] = drawRight(r)
	}
	return l
}

// isPut fails, unless l is put as b, b is got as l, and both stay.
func isPut(t *testing.T, l []api.Ins, b []byte) {
	t.Helper()
	wasList, was := slices.Clone(l), bytes.Clone(b)
	if got, e := Put(l); e != api.OK || !bytes.Equal(got, was) {
		t.Fatalf("Put of %d: %d bytes %x, %d; not %x", len(l), len(got), got[:min(16, len(got))], e, was[:min(16, len(was))])
	}
	if got, e := Get(b); e != api.OK || !slices.Equal(got, wasList) {
		t.Fatalf("Get of %d bytes: %v, %d; not %v", len(b), got[:min(2, len(got))], e, wasList[:min(2, len(l))])
	}
	if !slices.Equal(l, wasList) || !bytes.Equal(b, was) {
		t.Fatal("what was given is another")
	}
}

// putFails and getFails fail, unless there is that error, and nothing beside.
func putFails(t *testing.T, l []api.Ins, want api.Errno) {
	t.Helper()
	if b, e := Put(l); e != want || len(b) != 0 {
		t.Fatalf("Put of %d: %d bytes, %d; not %d", len(l), len(b), e, want)
	}
}

func getFails(t *testing.T, b []byte, want api.Errno) {
	t.Helper()
	if l, e := Get(b); e != want || len(l) != 0 {
		t.Fatalf("Get of %d bytes, %x: %v, %d; not %d", len(b), b[:min(8, len(b))], l, e, want)
	}
}

// P6.1, by hand: what each kind has, its ends, and one past them.
func TestRightByHand(t *testing.T) {
	for k, c := range []struct {
		i    api.Ins
		want bool
	}{
		{api.Ins{}, false},
		{api.Ins{Op: api.Add}, true},
		{api.Ins{Op: api.Add, Dst: 9, Src: 10}, true},
		{api.Ins{Op: api.Add, Dst: 9, Src: 11}, false},
		{api.Ins{Op: api.Add, Dst: 10, Src: 1}, false},
		{api.Ins{Op: api.Add, Dst: -1, Src: 1}, false},
		{api.Ins{Op: api.Add, Dst: 1, Src: -1}, false},
		{api.Ins{Op: api.Add, Dst: 1, Src: 1, Narrow: true}, true},
		{api.Ins{Op: api.Add, Dst: 1, Src: 1, Imm: 1}, false},
		{api.Ins{Op: api.Add, Dst: 1, Src: 1, UseImm: true, Imm: 1}, false},
		{api.Ins{Op: api.Add, Dst: 1, Src: 1, UseImm: true}, false},
		{api.Ins{Op: api.Add, Dst: 1, UseImm: true}, true},
		{api.Ins{Op: api.Add, Dst: 1, Src: 1, Off: 1}, false},
		{api.Ins{Op: api.Add, Dst: 1, Src: 1, Size: 8}, false},
		{api.Ins{Op: api.Mov, Dst: 9, UseImm: true, Imm: 1<<31 - 1}, true},
		{api.Ins{Op: api.Mov, Dst: 9, UseImm: true, Imm: 1 << 31}, false},
		{api.Ins{Op: api.Mov, Dst: 9, UseImm: true, Imm: -1 << 31, Narrow: true}, true},
		{api.Ins{Op: api.Mov, Dst: 9, UseImm: true, Imm: -1<<31 - 1}, false},
		{api.Ins{Op: api.Mov, Dst: 10, UseImm: true, Imm: 1}, false},
		{api.Ins{Op: api.Neg, Dst: 9}, true},
		{api.Ins{Op: api.Neg, Dst: 9, Narrow: true}, true},
		{api.Ins{Op: api.Neg, Dst: 10}, false},
		{api.Ins{Op: api.Neg, Dst: 1, Src: 1}, false},
		{api.Ins{Op: api.Neg, Dst: 1, UseImm: true}, false},
		{api.Ins{Op: api.Neg, Dst: 1, UseImm: true, Imm: 1}, false},
		{api.Ins{Op: api.Load, Dst: 9, Src: 10, Off: 1<<15 - 1, Size: 1}, true},
		{api.Ins{Op: api.Load, Dst: 10, Src: 10, Size: 1}, false},
		{api.Ins{Op: api.Load, Dst: 9, Src: 11, Size: 1}, false},
		{api.Ins{Op: api.Load, Dst: 9, Src: 1, Off: 1 << 15, Size: 1}, false},
		{api.Ins{Op: api.Load, Dst: 9, Src: 1, Size: 8, UseImm: true}, false},
		{api.Ins{Op: api.Load, Dst: 9, Size: 8, UseImm: true, Imm: 1}, false},
		{api.Ins{Op: api.Load, Dst: 9, Src: 1, Size: 8, Imm: 1}, false},
		{api.Ins{Op: api.Load, Dst: 9, Src: 1, Size: 8, Narrow: true}, false},
		{api.Ins{Op: api.Load, Dst: 9, Src: 1}, false},
		{api.Ins{Op: api.Put, Dst: 10, Src: 10, Off: -1 << 15, Size: 8}, true},
		{api.Ins{Op: api.Put, Dst: 10, Src: 10, Off: -1<<15 - 1, Size: 8}, false},
		{api.Ins{Op: api.Put, Dst: 11, Src: 10, Size: 8}, false},
		{api.Ins{Op: api.Put, Dst: 10, UseImm: true, Imm: -1 << 31, Size: 1}, true},
		{api.Ins{Op: api.Put, Dst: 10, UseImm: true, Imm: 1, Size: 1, Narrow: true}, false},
		{api.Ins{Op: api.Put, Dst: 10, UseImm: true, Imm: 1, Size: 3}, false},
		{api.Ins{Op: api.Put, Dst: 10, UseImm: true, Imm: 1, Size: 16}, false},
		{api.Ins{Op: api.Put, Dst: 10, Src: 1}, false},
		{api.Ins{Op: api.Jump}, true},
		{api.Ins{Op: api.Jump, Off: -1 << 15}, true},
		{api.Ins{Op: api.Jump, Off: 1<<15 - 1}, true},
		{api.Ins{Op: api.Jump, Off: 1 << 15}, false},
		{api.Ins{Op: api.Jump, Dst: 1}, false},
		{api.Ins{Op: api.Jump, Src: 1}, false},
		{api.Ins{Op: api.Jump, Narrow: true}, false},
		{api.Ins{Op: api.Jump, UseImm: true}, false},
		{api.Ins{Op: api.Jump, Imm: 1}, false},
		{api.Ins{Op: api.Jump, Size: 1}, false},
		{api.Ins{Op: api.Jeq, Dst: 10, Src: 10, Off: -1 << 15, Narrow: true}, true},
		{api.Ins{Op: api.Jeq, Dst: 11, Src: 10}, false},
		{api.Ins{Op: api.Jeq, Dst: 10, Src: 11}, false},
		{api.Ins{Op: api.Jset, Dst: 10, UseImm: true, Imm: 1<<31 - 1, Off: 1<<15 - 1}, true},
		{api.Ins{Op: api.Jset, Dst: 10, UseImm: true, Imm: 1, Off: 1 << 15}, false},
		{api.Ins{Op: api.Jset, Dst: 10, UseImm: true, Imm: 1, Size: 1}, false},
		{api.Ins{Op: api.Exit}, true},
		{api.Ins{Op: api.Exit, Dst: 1}, false},
		{api.Ins{Op: api.Exit, Src: 1}, false},
		{api.Ins{Op: api.Exit, Off: 1}, false},
		{api.Ins{Op: api.Exit, Imm: 1}, false},
		{api.Ins{Op: api.Exit, Size: 1}, false},
		{api.Ins{Op: api.Exit, UseImm: true}, false},
		{api.Ins{Op: api.Exit, Narrow: true}, false},
		{api.Ins{Op: 29}, false},
		{api.Ins{Op: 28 + 32}, false},
		{api.Ins{Op: 28 + 64}, false},
		{api.Ins{Op: 255}, false},
	} {
		if Right(c.i) != c.want {
			t.Errorf("%d: Right(%+v) is not %v", k, c.i, c.want)
		}
	}
}

// P6.1: each Op's fields at their ends and one past them, all with all; what is
// right is put and got, what is not is refused.
func TestAllFields(t *testing.T) {
	for _, op := range ops() {
		dsts := registers()
		if testing.Short() {
			dsts = []int{-1, 0, 9, 10, 11}
		}
		right := 0
		withFields(op, dsts, func(i api.Ins) {
			want := plainRight(i)
			if Right(i) != want {
				t.Fatalf("Right(%+v) is not %v", i, want)
			}
			if want {
				right++
				isPut(t, []api.Ins{i}, plainBytes(i))
			}
		})
		if _, there := rowOf(op); there != (right > 0) {
			t.Errorf("%d of Op %d are right", right, op)
		}
	}
}

// P6.1: of a right instruction of each Op, each field at each value of a wide
// range.
func TestEachField(t *testing.T) {
	r := rand.New(rand.NewSource(1))
	for op := api.Add; op <= api.Exit; op++ {
		i := drawRight(r)
		for i.Op != op {
			i = drawRight(r)
		}
		one := func(j api.Ins) {
			if Right(j) != plainRight(j) {
				t.Fatalf("Right(%+v) is not %v", j, plainRight(j))
			}
		}
		for n := -300; n <= 300; n++ {
			a, b, c, d, e := i, i, i, i, i
			a.Dst, b.Src, c.Off, d.Imm, e.Size = n, n, n, n, n
			for _, j := range []api.Ins{a, b, c, d, e} {
				one(j)
			}
		}
		for bit := range 64 {
			for _, n := range []int{1<<bit - 1, 1 << bit, 1<<bit + 1, -1 << bit, -1<<bit - 1, -1<<bit + 1} {
				a, b, c, d, e := i, i, i, i, i
				a.Dst, b.Src, c.Off, d.Imm, e.Size = n, n, n, n, n
				for _, j := range []api.Ins{a, b, c, d, e} {
					one(j)
				}
			}
		}
	}
}

// P6.1: an Op is right by its number alone, Jumps hangs on nothing else.
func TestAllOps(t *testing.T) {
	wrong := api.Ins{Dst: 77, Src: -3, Off: 1 << 20, Imm: 1 << 40, Size: 3, UseImm: true, Narrow: true}
	for n := range 256 {
		i := api.Ins{Op: api.Op(n)}
		sized := i.Op == api.Load || i.Op == api.Put
		if want := n >= 1 && n <= 28 && !sized; Right(i) != want {
			t.Errorf("Right of Op %d is not %v", n, want)
		}
		for _, size := range sizes() {
			i.Size = size
			right := slices.Contains([]int{1, 2, 4, 8}, size)
			if sized && Right(i) != right {
				t.Errorf("Right of Op %d, Size %d, is not %v", n, size, right)
			}
		}
		wrong.Op = i.Op
		if Right(wrong) {
			t.Errorf("%+v is right", wrong)
		}
		if want := n >= 16 && n <= 27; Jumps(api.Ins{Op: i.Op}) != want || Jumps(wrong) != want {
			t.Errorf("Jumps of Op %d is not %v", n, want)
		}
	}
}

// P6.2, by hand: the chapter's examples, and each kind.
func TestBytesByHand(t *testing.T) {
	for _, c := range []struct {
		i api.Ins
		b string
	}{
		{api.Ins{Op: api.Mov, UseImm: true, Imm: 1}, "2c00000000000001"},
		{api.Ins{Op: api.Load, Dst: 3, Src: 1, Off: 12, Size: 2}, "4e31000c00000000"},
		{api.Ins{Op: api.Exit}, "1c00000000000000"},
		{api.Ins{Op: api.Add, Dst: 9, Src: 10}, "019a000000000000"},
		{api.Ins{Op: api.Sub, Dst: 9, Src: 10, Narrow: true}, "429a000000000000"},
		{api.Ins{Op: api.Mul, Dst: 2, UseImm: true, Imm: -1, Narrow: true}, "63200000ffffffff"},
		{api.Ins{Op: api.Sar, Dst: 2, UseImm: true, Imm: -1 << 31}, "2b20000080000000"},
		{api.Ins{Op: api.Mov, Dst: 2, UseImm: true, Imm: 1<<31 - 1}, "2c2000007fffffff"},
		{api.Ins{Op: api.Mov, Dst: 2, UseImm: true, Imm: 0x01020304}, "2c20000001020304"},
		{api.Ins{Op: api.Mov, Dst: 2, UseImm: true}, "2c20000000000000"},
		{api.Ins{Op: api.Neg, Dst: 9}, "0d90000000000000"},
		{api.Ins{Op: api.Neg, Dst: 9, Narrow: true}, "4d90000000000000"},
		{api.Ins{Op: api.Load, Dst: 3, Src: 10, Off: -1, Size: 1}, "0e3affff00000000"},
		{api.Ins{Op: api.Load, Dst: 3, Src: 10, Off: -1 << 15, Size: 4}, "8e3a800000000000"},
		{api.Ins{Op: api.Load, Dst: 3, Src: 10, Off: 1<<15 - 1, Size: 8}, "ce3a7fff00000000"},
		{api.Ins{Op: api.Put, Dst: 10, Src: 9, Off: 0x0102, Size: 1}, "0fa9010200000000"},
		{api.Ins{Op: api.Put, Dst: 10, UseImm: true, Imm: 5, Off: -8, Size: 1}, "2fa0fff800000005"},
		{api.Ins{Op: api.Put, Dst: 10, UseImm: true, Imm: 5, Off: -8, Size: 2}, "6fa0fff800000005"},
		{api.Ins{Op: api.Put, Dst: 10, UseImm: true, Imm: 5, Off: -8, Size: 4}, "afa0fff800000005"},
		{api.Ins{Op: api.Put, Dst: 10, UseImm: true, Imm: 5, Off: -8, Size: 8}, "efa0fff800000005"},
		{api.Ins{Op: api.Jump}, "1000000000000000"},
		{api.Ins{Op: api.Jump, Off: -2}, "1000fffe00000000"},
		{api.Ins{Op: api.Jeq, Dst: 10, Src: 10, Off: 3}, "11aa000300000000"},
		{api.Ins{Op: api.Jset, Dst: 1, UseImm: true, Imm: -2, Off: -3, Narrow: true}, "7b10fffdfffffffe"},
	} {
		b, err := hex.DecodeString(c.b)
		if err != nil {
			t.Fatal(err)
		}
		isPut(t, []api.Ins{c.i}, b)
	}
}

// P6.2, P6.4: each right instruction of drawn lists, one behind the other.
func TestLists(t *testing.T) {
	r := rand.New(rand.NewSource(2))
	for n := range 300 {
		l := drawList(r, n)
		var b []byte
		for _, i := range l {
			b = append(b, plainBytes(i)...)
		}
		isPut(t, l, b)
	}
}

// P6.2: no instructions are no bytes, nil or empty (R6).
func TestNone(t *testing.T) {
	for _, l := range [][]api.Ins{nil, {}, []api.Ins{{Op: 77}}[:0]} {
		for _, b := range [][]byte{nil, {}, []byte{9}[:0]} {
			isPut(t, l, b)
		}
	}
}

// P6.2: as many instructions, and as many bytes, as may be, and one more; that
// there are too many is told ahead of what they are (R2).
func TestLimits(t *testing.T) {
	l := drawList(rand.New(rand.NewSource(3)), 4096)
	var b []byte
	for _, i := range l {
		b = append(b, plainBytes(i)...)
	}
	isPut(t, l, b)
	isPut(t, l[:4095], b[:8*4095])
	exit := api.Ins{Op: api.Exit}
	for _, more := range []int{1, 2, 4096, 61440} {
		putFails(t, slices.Concat(l, slices.Repeat([]api.Ins{exit}, more)), api.ErrLong)
		putFails(t, slices.Concat(l, make([]api.Ins, more)), api.ErrLong)
		getFails(t, slices.Concat(b, bytes.Repeat(plainBytes(exit), more)), api.ErrLong)
	}
	for more := 1; more <= 17; more++ {
		getFails(t, slices.Concat(b, make([]byte, more)), api.ErrLong)
	}
	putFails(t, make([]api.Ins, 4097), api.ErrLong)
	getFails(t, make([]byte, 8*4096+1), api.ErrLong)
	putFails(t, make([]api.Ins, 4096), api.ErrShape)
	getFails(t, make([]byte, 8*4096), api.ErrShape)
	getFails(t, b[:8*4096-1], api.ErrShape)
}

// P6.2: one instruction that is not right, wherever it stands.
func TestOneWrong(t *testing.T) {
	l := drawList(rand.New(rand.NewSource(4)), 40)
	b, _ := Put(l)
	for at := range l {
		for _, wrong := range []api.Ins{{}, {Op: 29}, {Op: api.Exit, Off: 1}, {Op: api.Mov, Dst: 10}, {Op: api.Load}, {Op: api.Exit + 32}, {Op: api.Neg, UseImm: true, Imm: math.MinInt}} {
			bad := slices.Clone(l)
			bad[at] = wrong
			putFails(t, bad, api.ErrShape)
			putFails(t, bad[:at+1], api.ErrShape)
			putFails(t, bad[at:], api.ErrShape)
		}
		for _, wrong := range []string{"0000000000000000", "1d00000000000000", "1c00000100000000", "0ca0000000000000", "9c00000000000000", "ffffffffffffffff"} {
			eight, err := hex.DecodeString(wrong)
			if err != nil {
				t.Fatal(err)
			}
			bad := bytes.Clone(b)
			copy(bad[8*at:], eight)
			getFails(t, bad, api.ErrShape)
			getFails(t, bad[:8*at+8], api.ErrShape)
			getFails(t, bad[8*at:], api.ErrShape)
		}
	}
}

// P6.2, P6.4: bytes that are no multiple of eight are none; a beginning of a
// multiple of eight is the instructions' beginning.
func TestBeginnings(t *testing.T) {
	l := drawList(rand.New(rand.NewSource(5)), 70)
	b, _ := Put(l)
	for n := range b {
		if n%8 != 0 {
			getFails(t, b[:n], api.ErrShape)
			getFails(t, b[n:], api.ErrShape)
			continue
		}
		isPut(t, l[:n/8], b[:n])
		isPut(t, l[n/8:], b[n:])
	}
}

// pieces are the bytes behind the second, at the edges.
func pieces() [][]byte {
	var all [][]byte
	for _, off := range []string{"\x00\x00", "\x00\x01", "\x7f\xff", "\x80\x00", "\xff\xff", "\x01\x00"} {
		for _, imm := range []string{"\x00\x00\x00\x00", "\x00\x00\x00\x01", "\x7f\xff\xff\xff", "\x80\x00\x00\x00", "\xff\xff\xff\xff", "\x01\x00\x00\x00", "\x00\x00\x01\x00", "\x00\x01\x00\x00"} {
			all = append(all, []byte(off+imm))
		}
	}
	return all
}

// plainGet is the right instruction whose bytes b are, if there is one, by the
// first byte's parts.
func plainGet(b []byte) (api.Ins, bool) {
	i := api.Ins{Op: api.Op(b[0] % 32), UseImm: b[0]/32%2 == 1, Dst: int(b[1] / 16), Src: int(b[1] % 16)}
	i.Off = int(int16(binary.BigEndian.Uint16(b[2:])))
	i.Imm = int(int32(binary.BigEndian.Uint32(b[4:])))
	switch high := b[0] / 64; {
	case i.Op == api.Load || i.Op == api.Put:
		i.Size = []int{1, 2, 4, 8}[high]
	case high > 1:
		return api.Ins{}, false
	default:
		i.Narrow = high == 1
	}
	return i, plainRight(i)
}

// P6.2, P6.4: all first and second bytes, with what is behind at its edges: what
// is got is put as the same bytes, all else is refused.
func TestAllBytes(t *testing.T) {
	right := 0
	for _, piece := range pieces() {
		for n := range 1 << 16 {
			b := append([]byte{byte(n >> 8), byte(n)}, piece...)
			i, there := plainGet(b)
			if !there {
				getFails(t, b, api.ErrShape)
				continue
			}
			right++
			isPut(t, []api.Ins{i}, b)
		}
	}
	// Of the pieces six have no Imm, eight no Off. Registers, widths, Imms: of
	// Add to Mov, Neg, Load, Put, Jump, Jeq to Jset, Exit.
	want := 12*2*(10*11+10*8) + 2*10 + 4*6*10*11 + 4*6*(11*11+11*8) + 6 + 11*2*6*(11*11+11*8) + 1
	if right != want {
		t.Errorf("%d are right, not %d", right, want)
	}
}

// P6.3, by hand.
func TestNextByHand(t *testing.T) {
	l := []api.Ins{
		{Op: api.Mov, Dst: 1, UseImm: true},
		{Op: api.Jeq, Off: 2},
		{Op: api.Jeq},
		{Op: api.Jump, Off: 3},
		{Op: api.Jump},
		{Op: api.Jump, Off: -1},
		{Op: api.Jne, Off: -1},
		{Op: api.Jset, Off: -9},
		{Op: api.Exit},
		{Op: api.Load, Off: 5, Size: 1},
		{Op: api.Put, Off: 5, Size: 1},
		{Op: api.Neg},
		{},
		{Op: api.Exit, Off: 1},
		{Op: api.Jump, Off: 1, Imm: 1},
		{Op: api.Jle, Off: 1 << 15},
		{Op: api.Jump, Off: -1 << 15},
		{Op: api.Jlt, Off: 1<<15 - 1},
		{Op: api.Add, Dst: 1, Src: 1},
	}
	for at, want := range [][]int{{1}, {2, 4}, {3}, {7}, {5}, {5}, {6, 7}, {-1, 8}, nil, {10}, {11}, {12}, nil, nil, nil, nil, {17 - 1<<15}, {18, 17 + 1<<15}, {19}} {
		if got := Next(l, at); !slices.Equal(got, want) {
			t.Errorf("Next at %d: %v, not %v", at, got, want)
		}
	}
}

// P6.3: each Op, with jumps of all kinds of lengths, against the chapter's word.
func TestNextAll(t *testing.T) {
	r := rand.New(rand.NewSource(6))
	for range 2000 {
		l := drawList(r, 1+r.Intn(20))
		for at := range l {
			if r.Intn(2) == 0 && l[at].Op >= api.Jump && l[at].Op <= api.Jset {
				l[at].Off = r.Intn(7) - 3
			}
			if r.Intn(8) == 0 {
				l[at].Imm++ // most are not right any more
			}
		}
		was := slices.Clone(l)
		for at := -3; at < len(l)+3; at++ {
			if got, want := Next(l, at), plainNext(l, at); !slices.Equal(got, want) {
				t.Fatalf("Next at %d of %+v: %v, not %v", at, l, got, want)
			}
		}
		if !slices.Equal(l, was) {
			t.Fatal("Next changed the instructions")
		}
	}
}

// P6.3: no place of l tells nothing, however far it is off; more instructions
// than may be put have places, too.
func TestNextOutside(t *testing.T) {
	l := []api.Ins{{Op: api.Jump, Off: 1}, {Op: api.Jeq}, {Op: api.Neg}}
	for _, at := range []int{-1, -2, -1 << 32, math.MinInt, 3, 4, 1 << 32, 1<<32 + 1, math.MaxInt} {
		for _, some := range [][]api.Ins{l, l[:0], nil} {
			if got := Next(some, at); len(got) != 0 {
				t.Errorf("Next at %d of %d: %v", at, len(some), got)
			}
		}
	}
	if got := Next(nil, 0); len(got) != 0 {
		t.Errorf("Next of none: %v", got)
	}
	if got := Next(l[:2], 2); len(got) != 0 {
		t.Errorf("Next at the end: %v", got)
	}
	if got := Next(slices.Repeat(l[2:], 5000), 4999); !slices.Equal(got, []int{5000}) {
		t.Errorf("Next at 4999 of 5000: %v", got)
	}
}

// R3: what is told is new memory each time, and what is given is not kept.
func TestNewMemory(t *testing.T) {
	l := drawList(rand.New(rand.NewSource(7)), 20)
	b, _ := Put(l)
	wasList, was := slices.Clone(l), bytes.Clone(b)
	one, _ := Put(l)
	two, _ := Get(b)
	clear(b)
	clear(l)
	if !bytes.Equal(one, was) || !slices.Equal(two, wasList) {
		t.Error("what was told is in what was given")
	}
	copy(b, was)
	copy(l, wasList)
	clear(one[:cap(one)])
	clear(two[:cap(two)])
	isPut(t, l, b)
	row := []api.Ins{{Op: api.Jeq, Off: 4}}
	places := Next(row, 0)
	clear(places[:cap(places)])
	if got := Next(row, 0); !slices.Equal(got, []int{1, 5}) {
		t.Errorf("Next behind one that was cleared: %v", got)
	}
}

// R3: what stands behind an argument's end, in the same memory, neither counts
// nor is written to.
func TestBehindTheEnd(t *testing.T) {
	l := drawList(rand.New(rand.NewSource(8)), 30)
	b, _ := Put(l)
	for n := range l {
		wasList, was := slices.Clone(l), bytes.Clone(b)
		isPut(t, l[:n], b[:8*n])
		Next(l[:n], n-1)
		if !slices.Equal(l, wasList) || !bytes.Equal(b, was) {
			t.Fatalf("what stands behind %d was written to", n)
		}
	}
}

// R4: the same is told each time, whoever else asks.
func TestAlike(t *testing.T) {
	l := drawList(rand.New(rand.NewSource(9)), 500)
	var b []byte
	for _, i := range l {
		b = append(b, plainBytes(i)...)
	}
	var wait sync.WaitGroup
	for range 4 {
		wait.Go(func() {
			for range 20 {
				put, e := Put(l)
				got, f := Get(b)
				if e != api.OK || f != api.OK || !bytes.Equal(put, b) || !slices.Equal(got, l) {
					t.Error("it is told otherwise")
				}
			}
		})
	}
	wait.Wait()
}

// R1: texts, and whatever other bytes, are told something; what is right among
// them is put as the same bytes.
func FuzzGet(f *testing.F) {
	f.Add([]byte(strings.Repeat("\x1c\x00\x00\x00\x00\x00\x00\x00", 2)))
	f.Add([]byte("\x4e\x31\x00\x0c\x00\x00\x00\x00"))
	f.Add([]byte("mov r0, 1"))
	f.Fuzz(func(t *testing.T, b []byte) {
		l, e := Get(b)
		if e != api.OK {
			getFails(t, b, e)
			return
		}
		isPut(t, l, b)
	})
}
