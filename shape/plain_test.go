package shape

import (
	"math/rand"
	"slices"

	"barbican/api"
)

// The instructions that filters are made of here.
var (
	mov  = api.Ins{Op: api.Mov, UseImm: true, Imm: 1}
	exit = api.Ins{Op: api.Exit}
	none = api.Ins{Op: 29} // no kind's
)

func jump(off int) api.Ins { return api.Ins{Op: api.Jump, Off: off} }

func cond(off int) api.Ins { return api.Ins{Op: api.Jeq, Dst: 2, UseImm: true, Imm: 7, Off: off} }

// plainJumps tells whether i may jump: the chapter's kinds, one by one.
func plainJumps(i api.Ins) bool {
	return slices.Contains([]api.Op{
		api.Jump, api.Jeq, api.Jne, api.Jgt, api.Jge, api.Jlt, api.Jle,
		api.Jsgt, api.Jsge, api.Jslt, api.Jsle, api.Jset,
	}, i.Op)
}

// plainGoes tells whether l[to] may come behind l[from].
func plainGoes(l []api.Ins, from, to int) bool {
	i := l[from]
	falls := i.Op != api.Exit && i.Op != api.Jump
	return falls && to == from+1 || plainJumps(i) && to == from+1+i.Off
}

// plainCome is the places that are come to: the word is taken again and again
// until it says nothing new, whichever way jumps go.
func plainCome(l []api.Ins) []bool {
	come := make([]bool, len(l))
	come[0] = true
	for more := true; more; {
		more = false
		for from := range l {
			for to := range l {
				if come[from] && !come[to] && plainGoes(l, from, to) {
					come[to], more = true, true
				}
			}
		}
	}
	return come
}

// plainCheck gathers all faults that l has, with the points that name them, and
// takes the least one: by point, and then by place. Instructions are right here,
// but those of no kind.
func plainCheck(l []api.Ins) api.Fault {
	if len(l) == 0 {
		return api.Fault{Err: api.ErrNone}
	}
	if len(l) > 4096 {
		return api.Fault{Err: api.ErrLong}
	}
	var points [4][]api.Fault
	come := plainCome(l)
	for at, i := range l {
		if i.Op == 0 || i.Op > 28 {
			points[0] = append(points[0], api.Fault{Err: api.ErrShape, At: at})
		}
		there := at + 1 + i.Off
		if plainJumps(i) && i.Off < 0 {
			points[1] = append(points[1], api.Fault{Err: api.ErrBack, At: at})
		} else if plainJumps(i) && there > len(l)-1 {
			points[1] = append(points[1], api.Fault{Err: api.ErrFar, At: at})
		}
		if at+1 == len(l) && i.Op != api.Exit && i.Op != api.Jump {
			points[2] = append(points[2], api.Fault{Err: api.ErrEnd, At: at})
		}
		if !come[at] {
			points[3] = append(points[3], api.Fault{Err: api.ErrDead, At: at})
		}
	}
	all := slices.Concat(points[:]...)
	if len(all) == 0 {
		return api.Fault{}
	}
	return all[0]
}

// letters are instructions of all that the chapter tells apart.
func letters() []api.Ins {
	l := []api.Ins{mov, exit, none}
	for off := -1; off <= 2; off++ {
		l = append(l, jump(off), cond(off))
	}
	return l
}

// eachFilter asks all filters of n of the letters.
func eachFilter(n int, letters []api.Ins, ask func([]api.Ins)) {
	l := make([]api.Ins, n)
	var fill func(at int)
	fill = func(at int) {
		if at == n {
			ask(l)
			return
		}
		for _, i := range letters {
			l[at] = i
			fill(at + 1)
		}
	}
	fill(0)
}

// drawStraight is an instruction that does not jump, and does not end.
func drawStraight(r *rand.Rand) api.Ins {
	switch r.Intn(4) {
	case 0:
		return api.Ins{Op: api.Load, Dst: r.Intn(10), Src: r.Intn(11), Off: r.Intn(1<<16) - 1<<15, Size: 1 << r.Intn(4)}
	case 1:
		return api.Ins{Op: api.Put, Dst: r.Intn(11), Src: r.Intn(11), Off: r.Intn(1<<16) - 1<<15, Size: 1 << r.Intn(4)}
	case 2:
		return api.Ins{Op: api.Neg, Dst: r.Intn(10), Narrow: r.Intn(2) == 0}
	}
	return api.Ins{Op: api.Add + api.Op(r.Intn(12)), Dst: r.Intn(10), Src: r.Intn(11), Narrow: r.Intn(2) == 0}
}

// drawCond is a conditional jump of some kind, Off far.
func drawCond(r *rand.Rand, off int) api.Ins {
	return api.Ins{Op: api.Jeq + api.Op(r.Intn(11)), Dst: r.Intn(11), Src: r.Intn(11), Narrow: r.Intn(2) == 0, Off: off}
}

// drawWell is n instructions without a fault. Where the one behind a Jump or an
// Exit is not come to otherwise, there is neither.
func drawWell(r *rand.Rand, n int) []api.Ins {
	l := make([]api.Ins, n)
	come := make([]bool, n+1)
	for at := range n - 1 {
		off := r.Intn(min(n-at-1, 1<<uint(r.Intn(12))))
		i := drawStraight(r)
		switch r.Intn(4) {
		case 0:
			i = drawCond(r, off)
		case 1:
			i = exit
		case 2:
			i = jump(off)
		}
		if !come[at+1] && (i.Op == api.Exit || i.Op == api.Jump && off > 0) {
			i = drawCond(r, off)
		}
		if plainJumps(i) {
			come[at+1+i.Off] = true
		}
		if i.Op != api.Exit && i.Op != api.Jump {
			come[at+1] = true
		}
		l[at] = i
	}
	l[n-1] = exit
	return l
}
