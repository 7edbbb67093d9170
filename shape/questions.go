package shape

import (
	"barbican/api"
	"barbican/ins"
)

// A question is asked of a filter's places from the first one on, once no
// question ahead of it has found a fault: its answer is the fault there, or OK.
type question func(at int) api.Errno

// right asks whether the instruction is right.
func right(l []api.Ins) question {
	return func(at int) api.Errno {
		return unless(ins.Right(l[at]), api.ErrShape)
	}
}

// forward asks whether a jump goes forward, to a place of l.
func forward(l []api.Ins) question {
	return func(at int) api.Errno {
		switch {
		case !ins.Jumps(l[at]):
			return api.OK
		case l[at].Off < 0:
			return api.ErrBack
		}
		return unless(at+1+l[at].Off < len(l), api.ErrFar)
	}
}

// ended asks whether nothing runs out behind the last instruction.
func ended(l []api.Ins) question {
	return func(at int) api.Errno {
		last := at == len(l)-1
		return unless(!last || l[at].Op == api.Exit || l[at].Op == api.Jump, api.ErrEnd)
	}
}

// comeTo asks whether the place is come to. As nothing goes back, by now, all
// that may stand ahead of a place has been asked when its turn comes.
func comeTo(l []api.Ins) question {
	come := make([]bool, len(l))
	come[0] = true
	return func(at int) api.Errno {
		if !come[at] {
			return api.ErrDead
		}
		for _, behind := range ins.Next(l, at) {
			come[behind] = true
		}
		return api.OK
	}
}

// unless is OK where it is so, and e where it is not.
func unless(so bool, e api.Errno) api.Errno {
	if so {
		return api.OK
	}
	return e
}
