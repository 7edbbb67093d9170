package shape

import (
	"math"
	"math/rand"
	"slices"
	"sync"
	"testing"

	"barbican/api"
	"barbican/ins"
)

// is asks that l's first fault is e, at that place.
func is(t *testing.T, l []api.Ins, e api.Errno, at int) {
	t.Helper()
	if got, want := Check(l), (api.Fault{Err: e, At: at}); got != want {
		shown := l
		if len(shown) > 12 {
			shown = shown[:12]
		}
		t.Errorf("%d instructions, %+v ..: %+v, not %+v", len(l), shown, got, want)
	}
}

// well asks that l has no fault.
func well(t *testing.T, l ...api.Ins) {
	t.Helper()
	is(t, l, api.OK, 0)
}

// fails asks that l has that fault first.
func fails(t *testing.T, e api.Errno, at int, l ...api.Ins) {
	t.Helper()
	is(t, l, e, at)
}

// movs is n instructions that do not jump.
func movs(n int) []api.Ins {
	return slices.Repeat([]api.Ins{mov}, n)
}

// with is l with other instructions at these places.
func with(l []api.Ins, others map[int]api.Ins) []api.Ins {
	l = slices.Clone(l)
	for at, i := range others {
		l[at] = i
	}
	return l
}

// P8.1: the chapter's examples.
func TestExamples(t *testing.T) {
	well(t, mov, exit)
	fails(t, api.ErrDead, 1, exit, exit)
	fails(t, api.ErrEnd, 1, jump(0), mov)
	fails(t, api.ErrBack, 0, jump(-1))
	fails(t, api.ErrFar, 0, jump(1), exit)
}

// P8.1: ordinary filters.
func TestWell(t *testing.T) {
	well(t, exit)
	well(t, jump(0), exit)
	well(t, cond(0), exit)
	well(t, cond(1), exit, exit)
	well(t, cond(1), jump(0), exit)
	well(t, cond(2), mov, jump(1), mov, exit)
	well(t, jump(0), jump(0), jump(0), exit)
	well(t, cond(3), cond(1), exit, exit, exit)
	well(t, cond(1), jump(2), cond(0), exit, jump(0), jump(0), exit)
}

// P8.1: no instructions, as many as may be, and more.
func TestLimits(t *testing.T) {
	is(t, nil, api.ErrNone, 0)
	is(t, []api.Ins{}, api.ErrNone, 0)
	is(t, []api.Ins{exit}[:0], api.ErrNone, 0)
	for _, n := range []int{1, 2, 4095, 4096} {
		well(t, append(movs(n-1), exit)...)
		is(t, movs(n), api.ErrEnd, n-1)
		is(t, make([]api.Ins, n), api.ErrShape, 0)
		is(t, append(movs(n-1), none), api.ErrShape, n-1)
	}
	for _, n := range []int{4097, 4098, 8192, 100000} {
		is(t, append(movs(n-1), exit), api.ErrLong, 0)
		is(t, movs(n), api.ErrLong, 0)
		is(t, make([]api.Ins, n), api.ErrLong, 0)
		is(t, slices.Repeat([]api.Ins{jump(-1)}, n), api.ErrLong, 0)
	}
}

// P8.1, point 1: instructions that are not right, at each place.
func TestShape(t *testing.T) {
	for _, wrong := range []api.Ins{
		none, {}, {Op: 255}, {Op: api.Exit, Dst: 1}, {Op: api.Exit, Off: 1}, {Op: api.Exit, Narrow: true},
		{Op: api.Mov, Dst: 10}, {Op: api.Mov, Dst: -1}, {Op: api.Mov, Src: 11}, {Op: api.Mov, Imm: 1}, {Op: api.Mov, Size: 1},
		{Op: api.Mov, UseImm: true, Imm: 1 << 31}, {Op: api.Mov, UseImm: true, Src: 1}, {Op: api.Neg, UseImm: true},
		{Op: api.Load, Size: 3}, {Op: api.Load}, {Op: api.Put, Size: 16}, {Op: api.Load, Size: 1, Off: 1 << 15},
		{Op: api.Jump, Dst: 1}, {Op: api.Jump, Narrow: true}, {Op: api.Jump, UseImm: true}, {Op: api.Jeq, Size: 1},
		jump(1 << 15), jump(-1<<15 - 1), cond(1 << 15), cond(-1<<15 - 1),
		jump(math.MaxInt), jump(math.MinInt), cond(math.MaxInt), cond(math.MinInt),
	} {
		fails(t, api.ErrShape, 0, wrong)
		for at := range 5 {
			l := append(movs(4), exit)
			l[at] = wrong
			is(t, l, api.ErrShape, at)
		}
	}
	fails(t, api.ErrShape, 1, mov, none, none, exit)
}

// P8.1, point 2: a jump's ends, from each place, whatever kind it has.
func TestJumps(t *testing.T) {
	const n = 7
	for op := api.Jump; op <= api.Jset; op++ {
		for at := range n - 1 {
			for _, off := range []int{-1 << 15, -at - 2, -at - 1, -2, -1} {
				l := with(append(movs(n-1), exit), map[int]api.Ins{at: {Op: op, Off: off}})
				is(t, l, api.ErrBack, at)
			}
			last := n - at - 2
			for _, off := range []int{last + 1, last + 2, n, 4096, 1<<15 - 1} {
				l := with(append(movs(n-1), exit), map[int]api.Ins{at: {Op: op, Off: off}})
				is(t, l, api.ErrFar, at)
			}
			for off := range last + 1 {
				l := with(append(movs(n-1), exit), map[int]api.Ins{at: {Op: op, Off: off}})
				if op == api.Jump && off > 0 {
					is(t, l, api.ErrDead, at+1)
				} else {
					well(t, l...)
				}
			}
		}
		// At the last place there is none that a jump may go to.
		fails(t, api.ErrFar, 2, mov, mov, api.Ins{Op: op})
		fails(t, api.ErrBack, 2, mov, mov, api.Ins{Op: op, Off: -1})
		fails(t, api.ErrFar, 0, api.Ins{Op: op})
		fails(t, api.ErrBack, 0, api.Ins{Op: op, Off: -1})
	}
}

// P8.1, point 2: of the longest filter, too, the last place is come to, and none
// behind it.
func TestLongJumps(t *testing.T) {
	long := append(movs(4095), exit)
	well(t, with(long, map[int]api.Ins{0: cond(4094)})...)
	is(t, with(long, map[int]api.Ins{0: cond(4095)}), api.ErrFar, 0)
	is(t, with(long, map[int]api.Ins{0: jump(4094)}), api.ErrDead, 1)
	well(t, with(long, map[int]api.Ins{4094: jump(0)})...)
	is(t, with(long, map[int]api.Ins{4094: jump(1)}), api.ErrFar, 4094)
	is(t, with(long, map[int]api.Ins{4094: cond(-4095)}), api.ErrBack, 4094)
	is(t, with(long, map[int]api.Ins{4095: jump(0)}), api.ErrFar, 4095)
	is(t, with(long, map[int]api.Ins{4095: jump(-1)}), api.ErrBack, 4095)
}

// P8.1, point 2: it is none of those that do not jump: their Off may be any.
func TestOffsOfOthers(t *testing.T) {
	for _, off := range []int{-1 << 15, -1, 0, 1, 1<<15 - 1} {
		well(t, api.Ins{Op: api.Load, Size: 2, Off: off}, api.Ins{Op: api.Put, Size: 2, Off: off}, exit)
	}
}

// P8.1, point 3: what stands last.
func TestEnd(t *testing.T) {
	for op := api.Add; op <= api.Neg; op++ {
		fails(t, api.ErrEnd, 0, api.Ins{Op: op})
		fails(t, api.ErrEnd, 2, mov, mov, api.Ins{Op: op})
	}
	fails(t, api.ErrEnd, 1, mov, api.Ins{Op: api.Load, Size: 8})
	fails(t, api.ErrEnd, 1, mov, api.Ins{Op: api.Put, Size: 8})
	fails(t, api.ErrEnd, 2, cond(1), exit, mov)
	well(t, mov, mov, exit)
	// An Exit ahead does not help, a last Jump fails ahead of this point.
	fails(t, api.ErrEnd, 1, exit, mov)
	fails(t, api.ErrFar, 1, exit, jump(0))
}

// P8.1, point 4: places that nothing comes to.
func TestDead(t *testing.T) {
	fails(t, api.ErrDead, 1, jump(1), mov, exit)
	fails(t, api.ErrDead, 2, mov, exit, mov, exit)
	fails(t, api.ErrDead, 2, mov, jump(2), mov, mov, exit)
	fails(t, api.ErrDead, 2, cond(2), exit, mov, exit)
	// What only such a place goes to is none either; the first one is told.
	fails(t, api.ErrDead, 1, exit, cond(1), exit, exit)
	fails(t, api.ErrDead, 1, jump(2), jump(1), exit, exit)
	fails(t, api.ErrDead, 3, cond(1), exit, jump(1), cond(0), exit)
	// A way is enough, be it a jump's or that from ahead.
	well(t, cond(1), exit, cond(1), exit, exit)
	well(t, cond(1), jump(1), mov, exit)
	// A condition's both ways are: it may be that it never holds.
	well(t, api.Ins{Op: api.Jne, Dst: 1, Src: 1, Off: 1}, exit, exit)
	fails(t, api.ErrDead, 4095, append(movs(4094), exit, exit)...)
}

// P8.1: the points' order stands above that of the places; within a point, the
// places' one holds.
func TestOrder(t *testing.T) {
	fails(t, api.ErrShape, 3, jump(9), jump(-1), exit, none)
	fails(t, api.ErrShape, 1, jump(9), none, mov)
	fails(t, api.ErrShape, 2, exit, exit, none)
	fails(t, api.ErrBack, 2, exit, exit, jump(-1), mov)
	fails(t, api.ErrFar, 2, exit, exit, jump(1), mov)
	fails(t, api.ErrFar, 0, jump(9), jump(-1), exit)
	fails(t, api.ErrBack, 0, jump(-1), jump(9), exit)
	fails(t, api.ErrFar, 1, exit, cond(2), cond(-1), exit)
	fails(t, api.ErrBack, 1, exit, cond(-1), cond(2), exit)
	fails(t, api.ErrEnd, 3, jump(1), mov, exit, mov)
	fails(t, api.ErrEnd, 1, exit, mov)
	fails(t, api.ErrDead, 1, exit, exit, exit)
}

// P8.1: two faults together, each of the points at each of two places, either
// way round.
func TestTwoFaults(t *testing.T) {
	const n = 8
	faults := []api.Ins{none, jump(-1), cond(-2), jump(n), cond(n), exit}
	for _, one := range faults {
		for _, other := range faults {
			for a := range n {
				for b := range n {
					for _, last := range []api.Ins{exit, mov, jump(0), cond(0)} {
						l := with(append(movs(n-1), last), map[int]api.Ins{a: one})
						l[b] = other
						f := plainCheck(l)
						is(t, l, f.Err, f.At)
					}
				}
			}
		}
	}
}

// P8.1: all short filters of all that is told apart.
func TestAllShort(t *testing.T) {
	most := 5
	if testing.Short() {
		most = 4
	}
	for n := 1; n <= most; n++ {
		eachFilter(n, letters(), func(l []api.Ins) {
			f := plainCheck(l)
			is(t, l, f.Err, f.At)
			if f.Err == api.OK {
				ends(t, l)
			}
		})
	}
}

// mostSteps is the most steps from l[at] to an Exit; none, if a way does not
// come to one, or not within so many.
func mostSteps(l []api.Ins, at, within int) (int, bool) {
	if within == 0 || at < 0 || at >= len(l) {
		return 0, false
	}
	if l[at].Op == api.Exit {
		return 1, true
	}
	most := 0
	for to := range l {
		if plainGoes(l, at, to) {
			n, ok := mostSteps(l, to, within-1)
			if !ok {
				return 0, false
			}
			most = max(most, n)
		}
	}
	return most + 1, most > 0
}

// ends asks that each place of l, which is short, comes to an Exit, whichever
// way its conditional jumps go, in at most as many steps as it has instructions.
func ends(t *testing.T, l []api.Ins) {
	t.Helper()
	for at := range l {
		if _, ok := mostSteps(l, at, len(l)); !ok {
			t.Errorf("%+v: from %d there is a way to no Exit", l, at)
		}
	}
}

// P8.2: all ways of all short filters without a fault.
func TestEnds(t *testing.T) {
	few := []api.Ins{mov, exit, jump(0), jump(1), cond(0), cond(1), cond(2)}
	found, most := 0, 6
	if testing.Short() {
		most = 5
	}
	for n := 1; n <= most; n++ {
		eachFilter(n, few, func(l []api.Ins) {
			if Check(l) == (api.Fault{}) {
				found++
				ends(t, l)
			}
		})
	}
	if found < 100 {
		t.Errorf("only %d filters have no fault", found)
	}
}

// walk goes through l, which has no fault, from that place on, one way or the
// other by the drawn bits, and asks that it ends within its steps.
func walk(t *testing.T, r *rand.Rand, l []api.Ins, at int) {
	t.Helper()
	steps := 1
	for ; l[at].Op != api.Exit; steps++ {
		if plainJumps(l[at]) && (l[at].Op == api.Jump || r.Intn(2) == 0) {
			at += l[at].Off
		}
		at++
		if at < 0 || at >= len(l) || steps >= len(l) {
			t.Fatalf("of %d instructions: at %d after %d steps", len(l), at, steps)
		}
	}
}

// P8.1, P8.2: drawn filters without a fault, also of most instructions.
func TestDrawnWell(t *testing.T) {
	r := rand.New(rand.NewSource(1))
	for round := range 300 {
		n := 1 + r.Intn(60)
		if round%50 == 0 {
			n = 4096
		}
		l := drawWell(r, n)
		well(t, l...)
		for range 20 {
			walk(t, r, l, r.Intn(n))
		}
	}
}

// P8.1: drawn filters in which one or two instructions were put into others'
// places.
func TestDrawnFaults(t *testing.T) {
	r := rand.New(rand.NewSource(2))
	seen := map[api.Errno]int{}
	for range 3000 {
		l := drawWell(r, 1+r.Intn(40))
		for range 1 + r.Intn(2) {
			off := r.Intn(2*len(l)) - len(l)/4
			others := []api.Ins{none, jump(off), drawCond(r, off), exit, drawStraight(r)}
			l[r.Intn(len(l))] = others[r.Intn(len(others))]
		}
		f := plainCheck(l)
		is(t, l, f.Err, f.At)
		seen[f.Err]++
	}
	for _, e := range []api.Errno{api.OK, api.ErrShape, api.ErrBack, api.ErrFar, api.ErrEnd, api.ErrDead} {
		if seen[e] < 20 {
			t.Errorf("%d was drawn %d times only", e, seen[e])
		}
	}
}

// P8.1: with each instruction left out, doubled, or turned into an Exit.
func TestTurned(t *testing.T) {
	r := rand.New(rand.NewSource(3))
	for range 20 {
		l := drawWell(r, 2+r.Intn(20))
		for at := range l {
			for _, turned := range [][]api.Ins{
				slices.Delete(slices.Clone(l), at, at+1),
				slices.Insert(slices.Clone(l), at, l[at]),
				with(l, map[int]api.Ins{at: exit}),
				l[:at], l[at:],
			} {
				f := plainCheck(turned)
				is(t, turned, f.Err, f.At)
			}
		}
	}
}

// R3: what was asked of stays, and what stands behind it plays no part.
func TestStays(t *testing.T) {
	r := rand.New(rand.NewSource(4))
	for range 50 {
		row := drawWell(r, 30)
		kept := slices.Clone(row)
		for n := range len(row) + 1 {
			short := slices.Clip(slices.Clone(row[:n]))
			if got, want := Check(row[:n]), Check(short); got != want {
				t.Errorf("%+v with more behind it, %+v without", got, want)
			}
		}
		if !slices.Equal(row, kept) {
			t.Fatal("the filter was changed")
		}
	}
	// Nothing is kept of the filter that was asked ahead.
	l := []api.Ins{jump(1), mov, exit}
	is(t, l, api.ErrDead, 1)
	l[0] = mov
	well(t, l...)
	l[2] = mov
	is(t, l, api.ErrEnd, 2)
}

// R4: one filter has one fault, whoever else asks.
func TestAlike(t *testing.T) {
	r := rand.New(rand.NewSource(5))
	good := drawWell(r, 500)
	dead := slices.Concat(good, good)
	var wait sync.WaitGroup
	for range 4 {
		wait.Go(func() {
			for range 20 {
				well(t, good...)
				is(t, dead, api.ErrDead, 500)
			}
		})
	}
	wait.Wait()
}

// R1, P8.1, P8.2: whatever the bytes.
func FuzzCheck(f *testing.F) {
	r := rand.New(rand.NewSource(6))
	for n := range 5 {
		b, _ := ins.Put(drawWell(r, 3*n+1))
		f.Add(b)
	}
	f.Add([]byte{16, 0, 0xff, 0xff, 0, 0, 0, 0})
	f.Fuzz(func(t *testing.T, b []byte) {
		l, e := ins.Get(b)
		if e != api.OK || len(l) > 300 {
			return
		}
		want := plainCheck(l)
		is(t, l, want.Err, want.At)
		for range 10 {
			if want.Err == api.OK {
				walk(t, r, l, r.Intn(len(l)))
			}
		}
	})
}
