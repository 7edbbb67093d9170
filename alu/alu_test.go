package alu

import (
	"math"
	"math/big"
	"math/rand"
	"testing"

	"barbican/api"
)

// edges are the numbers at which a width, a sign or a shift turns over.
func edges() []uint64 {
	return []uint64{
		0, 1, 2, 3, 5, 7, 31, 32, 33, 63, 64, 65, 127, 128,
		1<<31 - 1, 1 << 31, 1<<31 + 1, 1<<32 - 1, 1 << 32, 1<<32 + 1, 1<<32 + 33,
		1<<63 - 1, 1 << 63, 1<<63 + 1, 1<<64 - 2, 1<<64 - 1, 0xdeadbeefcafef00d,
	}
}

// pairs are all pairs of edges, and drawn ones of all lengths.
func pairs() [][2]uint64 {
	var l [][2]uint64
	for _, a := range edges() {
		for _, b := range edges() {
			l = append(l, [2]uint64{a, b})
		}
	}
	r := rand.New(rand.NewSource(1))
	for range 2000 {
		l = append(l, [2]uint64{r.Uint64() >> r.Intn(64), r.Uint64() >> r.Intn(64)})
	}
	return l
}

func widthOf(narrow bool) uint {
	if narrow {
		return 32
	}
	return 64
}

// cut is n modulo 2 to the power bits, from 0 on.
func cut(n *big.Int, bits uint) *big.Int {
	return new(big.Int).Mod(n, new(big.Int).Lsh(big.NewInt(1), bits))
}

// readSigned is n, of so many bits, read as a signed number.
func readSigned(n *big.Int, bits uint) *big.Int {
	if n.Bit(int(bits)-1) == 0 {
		return n
	}
	return new(big.Int).Sub(n, new(big.Int).Lsh(big.NewInt(1), bits))
}

// plainDo is P1.1 in numbers of any length.
func plainDo(op api.Op, narrow bool, a, b uint64) (uint64, api.Errno) {
	bits := widthOf(narrow)
	x, y := cut(new(big.Int).SetUint64(a), bits), cut(new(big.Int).SetUint64(b), bits)
	z, by := new(big.Int), uint(b%uint64(bits))
	switch op {
	case api.Add:
		z.Add(x, y)
	case api.Sub:
		z.Sub(x, y)
	case api.Mul:
		z.Mul(x, y)
	case api.Div, api.Mod:
		if y.Sign() == 0 {
			return 0, api.ErrDivide
		}
		quotient, rest := new(big.Int).QuoRem(x, y, new(big.Int))
		z = quotient
		if op == api.Mod {
			z = rest
		}
	case api.And:
		z.And(x, y)
	case api.Or:
		z.Or(x, y)
	case api.Xor:
		z.Xor(x, y)
	case api.Shl:
		z.Lsh(x, by)
	case api.Shr:
		z.Rsh(x, by)
	case api.Sar:
		z.Rsh(readSigned(x, bits), by)
	case api.Mov:
		z = y
	case api.Neg:
		z.Neg(x)
	default:
		return 0, api.ErrArg
	}
	return cut(z, bits).Uint64(), api.OK
}

// plainIs is P1.2 in numbers of any length.
func plainIs(op api.Op, narrow bool, a, b uint64) (bool, api.Errno) {
	bits := widthOf(narrow)
	x, y := cut(new(big.Int).SetUint64(a), bits), cut(new(big.Int).SetUint64(b), bits)
	above, below := x.Cmp(y), readSigned(x, bits).Cmp(readSigned(y, bits))
	switch op {
	case api.Jeq:
		return above == 0, api.OK
	case api.Jne:
		return above != 0, api.OK
	case api.Jgt:
		return above > 0, api.OK
	case api.Jge:
		return above >= 0, api.OK
	case api.Jlt:
		return above < 0, api.OK
	case api.Jle:
		return above <= 0, api.OK
	case api.Jsgt:
		return below > 0, api.OK
	case api.Jsge:
		return below >= 0, api.OK
	case api.Jslt:
		return below < 0, api.OK
	case api.Jsle:
		return below <= 0, api.OK
	case api.Jset:
		return new(big.Int).And(x, y).Sign() != 0, api.OK
	}
	return false, api.ErrArg
}

// must is what Do tells, of an op that has no error here.
func must(t *testing.T, op api.Op, narrow bool, a, b uint64) uint64 {
	t.Helper()
	n, e := Do(op, narrow, a, b)
	if e != api.OK {
		t.Fatalf("Do(%d, %v, %#x, %#x): error %d", op, narrow, a, b, e)
	}
	return n
}

// says is what Is tells, of an op that has no error here.
func says(t *testing.T, op api.Op, narrow bool, a, b uint64) bool {
	t.Helper()
	ok, e := Is(op, narrow, a, b)
	if e != api.OK {
		t.Fatalf("Is(%d, %v, %#x, %#x): error %d", op, narrow, a, b, e)
	}
	return ok
}

// P1.1, by hand: the document's examples, each operator, the edges.
func TestDoByHand(t *testing.T) {
	const top = 1<<64 - 1
	for _, c := range []struct {
		op        api.Op
		narrow    bool
		a, b, out uint64
	}{
		{api.Sub, false, 3, 5, 1<<64 - 2},
		{api.Sub, true, 3, 5, 1<<32 - 2},
		{api.Sar, true, 1 << 31, 33, 3 << 30},
		{api.Add, false, top, 1, 0},
		{api.Add, false, 1<<32 - 1, 1, 1 << 32},
		{api.Add, true, 1<<32 - 1, 1, 0},
		{api.Add, true, 5<<32 + 1, 9<<32 + 2, 3},
		{api.Mul, false, 1 << 32, 1 << 31, 1 << 63},
		{api.Mul, true, 1 << 16, 1 << 16, 0},
		{api.Mul, true, 1<<32 - 1, 1<<32 - 1, 1},
		{api.Div, false, top, 2, 1<<63 - 1},
		{api.Div, false, 1 << 63, top, 0},
		{api.Div, true, 7<<32 + 9, 1<<32 + 2, 4},
		{api.Mod, false, top, 10, 5},
		{api.Mod, true, 1<<32 + 9, 4, 1},
		{api.And, false, 12, 10, 8},
		{api.And, true, top, top, 1<<32 - 1},
		{api.Or, false, 12, 10, 14},
		{api.Or, true, 1<<40 + 1, 2, 3},
		{api.Xor, false, 12, 10, 6},
		{api.Xor, true, 1<<40 + 1, 1, 0},
		{api.Shl, false, 1, 63, 1 << 63},
		{api.Shl, false, 1, 64, 1},
		{api.Shl, false, 1, 32, 1 << 32},
		{api.Shl, true, 1, 31, 1 << 31},
		{api.Shl, true, 1, 32, 1},
		{api.Shl, true, 3, 31, 1 << 31},
		{api.Shr, false, top, 63, 1},
		{api.Shr, false, top, 64, top},
		{api.Shr, true, top, 31, 1},
		{api.Shr, true, top, 32, 1<<32 - 1},
		{api.Shr, true, 1 << 32, 1, 0},
		{api.Sar, false, 1 << 63, 63, top},
		{api.Sar, false, 1<<63 - 1, 62, 1},
		{api.Sar, false, 1 << 31, 31, 1},
		{api.Sar, false, top, 64, top},
		{api.Sar, true, 1 << 31, 31, 1<<32 - 1},
		{api.Sar, true, 1<<63 + 8, 2, 2},
		{api.Mov, false, 9, top, top},
		{api.Mov, true, 9, top, 1<<32 - 1},
		{api.Neg, false, 1, 7, top},
		{api.Neg, false, 0, 7, 0},
		{api.Neg, false, 1 << 63, 0, 1 << 63},
		{api.Neg, true, 1, 7, 1<<32 - 1},
		{api.Neg, true, 1 << 32, 7, 0},
	} {
		if n, e := Do(c.op, c.narrow, c.a, c.b); n != c.out || e != api.OK {
			t.Errorf("Do(%d, %v, %#x, %#x) = %#x, %d, not %#x", c.op, c.narrow, c.a, c.b, n, e, c.out)
		}
	}
}

// P1.1: all operators, both widths, against numbers of any length.
func TestDoAgainstPlain(t *testing.T) {
	for _, p := range pairs() {
		for op := api.Add; op <= api.Neg; op++ {
			for _, narrow := range []bool{false, true} {
				n, e := Do(op, narrow, p[0], p[1])
				want, wantErr := plainDo(op, narrow, p[0], p[1])
				if n != want || e != wantErr {
					t.Fatalf("Do(%d, %v, %#x, %#x) = %#x, %d, not %#x, %d", op, narrow, p[0], p[1], n, e, want, wantErr)
				}
			}
		}
	}
}

// P1.1: what is no operator, and what divides by 0, tells just the error.
func TestDoErrors(t *testing.T) {
	for op := range 256 {
		for _, narrow := range []bool{false, true} {
			for _, b := range []uint64{0, 3} {
				n, e := Do(api.Op(op), narrow, 9, b)
				operates := op >= int(api.Add) && op <= int(api.Neg)
				if !operates && (n != 0 || e != api.ErrArg) {
					t.Errorf("Do(%d, %v, 9, %d) = %d, %d", op, narrow, b, n, e)
				}
				if operates && e == api.ErrArg {
					t.Errorf("Do(%d, %v, 9, %d): ErrArg", op, narrow, b)
				}
			}
		}
	}
	for _, c := range []struct {
		narrow bool
		b      uint64
		e      api.Errno
	}{
		{false, 0, api.ErrDivide},
		{true, 0, api.ErrDivide},
		{true, 1 << 32, api.ErrDivide},
		{true, 5 << 40, api.ErrDivide},
		{false, 1 << 32, api.OK},
		{true, 1<<32 + 1, api.OK},
	} {
		for _, op := range []api.Op{api.Div, api.Mod} {
			if n, e := Do(op, c.narrow, 0, c.b); n != 0 || e != c.e {
				t.Errorf("Do(%d, %v, 0, %#x) = %d, %d, not 0, %d", op, c.narrow, c.b, n, e, c.e)
			}
			if n, e := Do(op, c.narrow, 77, c.b); e != c.e || e != api.OK && n != 0 {
				t.Errorf("Do(%d, %v, 77, %#x) = %d, %d, not of %d", op, c.narrow, c.b, n, e, c.e)
			}
		}
	}
}

// P1.2, by hand: the document's examples, each question, the edges.
func TestIsByHand(t *testing.T) {
	const top = 1<<64 - 1
	for _, c := range []struct {
		op     api.Op
		narrow bool
		a, b   uint64
		out    bool
	}{
		{api.Jslt, true, 1 << 31, 0, true},
		{api.Jlt, true, 1 << 31, 0, false},
		{api.Jslt, false, 1 << 31, 0, false},
		{api.Jeq, false, 4, 4, true},
		{api.Jeq, false, 1 << 32, 0, false},
		{api.Jeq, true, 1 << 32, 0, true},
		{api.Jne, false, 1 << 32, 0, true},
		{api.Jne, true, 1 << 32, 0, false},
		{api.Jgt, false, top, 0, true},
		{api.Jgt, false, 4, 4, false},
		{api.Jgt, true, 1 << 32, 1, false},
		{api.Jge, false, 4, 4, true},
		{api.Jge, false, 3, 4, false},
		{api.Jlt, false, 3, 4, true},
		{api.Jlt, false, 4, 4, false},
		{api.Jle, false, 4, 4, true},
		{api.Jle, false, 5, 4, false},
		{api.Jsgt, false, 0, top, true},
		{api.Jsgt, false, top, top, false},
		{api.Jsgt, true, 1, 1<<32 - 1, true},
		{api.Jsge, false, 1 << 63, 1 << 63, true},
		{api.Jsge, false, 1 << 63, 0, false},
		{api.Jslt, false, 1 << 63, 1<<63 - 1, true},
		{api.Jslt, false, 0, 0, false},
		{api.Jsle, false, top, top, true},
		{api.Jsle, true, 0, 1 << 31, false},
		{api.Jset, false, 12, 4, true},
		{api.Jset, false, 12, 3, false},
		{api.Jset, false, 1 << 63, top, true},
		{api.Jset, true, 1 << 32, top, false},
	} {
		if ok, e := Is(c.op, c.narrow, c.a, c.b); ok != c.out || e != api.OK {
			t.Errorf("Is(%d, %v, %#x, %#x) = %v, %d, not %v", c.op, c.narrow, c.a, c.b, ok, e, c.out)
		}
	}
}

// P1.2: all questions, both widths, against numbers of any length.
func TestIsAgainstPlain(t *testing.T) {
	for _, p := range pairs() {
		for op := api.Jeq; op <= api.Jset; op++ {
			for _, narrow := range []bool{false, true} {
				ok, e := Is(op, narrow, p[0], p[1])
				want, wantErr := plainIs(op, narrow, p[0], p[1])
				if ok != want || e != wantErr {
					t.Fatalf("Is(%d, %v, %#x, %#x) = %v, %d, not %v, %d", op, narrow, p[0], p[1], ok, e, want, wantErr)
				}
			}
		}
	}
}

// P1.2: what is no question tells just the error.
func TestIsErrors(t *testing.T) {
	for op := range 256 {
		for _, narrow := range []bool{false, true} {
			for _, b := range []uint64{3, 4} {
				ok, e := Is(api.Op(op), narrow, 3, b)
				asks := op >= int(api.Jeq) && op <= int(api.Jset)
				if !asks && (ok || e != api.ErrArg) {
					t.Errorf("Is(%d, %v, 3, %d) = %v, %d", op, narrow, b, ok, e)
				}
				if asks && e != api.OK {
					t.Errorf("Is(%d, %v, 3, %d): error %d", op, narrow, b, e)
				}
			}
		}
	}
}

// P1.3.
func TestWide(t *testing.T) {
	for _, c := range []struct {
		n   int
		out uint64
	}{
		{0, 0},
		{5, 5},
		{-1, 1<<64 - 1},
		{-2, 1<<64 - 2},
		{1 << 40, 1 << 40},
		{-1 << 31, 1<<64 - 1<<31},
		{math.MaxInt64, 1<<63 - 1},
		{math.MinInt64, 1 << 63},
	} {
		if n := Wide(c.n); n != c.out {
			t.Errorf("Wide(%d) = %#x, not %#x", c.n, n, c.out)
		}
	}
}

// P1.4: Sub undoes Add, and so does to add what Neg tells.
func TestAddIsUndone(t *testing.T) {
	for _, p := range pairs() {
		for _, narrow := range []bool{false, true} {
			a, b := p[0], p[1]
			sum := must(t, api.Add, narrow, a, b)
			itself := must(t, api.Mov, narrow, 0, a)
			if n := must(t, api.Sub, narrow, sum, b); n != itself {
				t.Fatalf("narrow %v: %#x and less %#x: %#x", narrow, a, b, n)
			}
			if n := must(t, api.Add, narrow, sum, must(t, api.Neg, narrow, b, 0)); n != itself {
				t.Fatalf("narrow %v: %#x and the opposite of %#x: %#x", narrow, a, b, n)
			}
		}
	}
}

// P1.4: of two opposite questions just one says yes.
func TestQuestionsPart(t *testing.T) {
	for _, p := range pairs() {
		for _, narrow := range []bool{false, true} {
			for _, q := range [][2]api.Op{
				{api.Jeq, api.Jne},
				{api.Jgt, api.Jle}, {api.Jge, api.Jlt},
				{api.Jsgt, api.Jsle}, {api.Jsge, api.Jslt},
			} {
				if says(t, q[0], narrow, p[0], p[1]) == says(t, q[1], narrow, p[0], p[1]) {
					t.Fatalf("%d and %d, narrow %v, say the same of %#x and %#x", q[0], q[1], narrow, p[0], p[1])
				}
			}
		}
	}
}

// P1.4: what is narrow hangs on the lowest 32 bits alone, and tells no more.
func TestNarrowHangsOnLowBits(t *testing.T) {
	for i, p := range pairs() {
		high := uint64(i*i+1) << 32
		for op := api.Add; op <= api.Neg; op++ {
			n, e := Do(op, true, p[0], p[1])
			m, f := Do(op, true, p[0]^high, p[1]^high<<1)
			if n != m || e != f || n > math.MaxUint32 {
				t.Fatalf("Do(%d, narrow, %#x, %#x) = %#x, %d; of other high bits %#x, %d", op, p[0], p[1], n, e, m, f)
			}
		}
		for op := api.Jeq; op <= api.Jset; op++ {
			if says(t, op, true, p[0], p[1]) != says(t, op, true, p[0]^high, p[1]^high<<1) {
				t.Fatalf("Is(%d, narrow, %#x, %#x) hangs on the high bits", op, p[0], p[1])
			}
		}
	}
}
