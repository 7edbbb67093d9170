package text

import (
	"barbican/api"
	"barbican/ins"
)

// filter is what the lines say that were gone through.
type filter struct {
	words  map[string]word
	list   []api.Ins
	labels map[string]int // where each one stands
	jumps  []jump         // those to labels, in the order of their lines
}

// jump is one to a label.
type jump struct {
	line  int
	at    int // its place
	label string
}

// add puts what the line of that number says to the filter, or tells what is
// wrong with it.
func (f *filter) add(number int, line string) api.Errno {
	said, e := read(line, f.words)
	switch {
	case e != api.OK:
		return e
	case said.label != "":
		return f.mark(said.label)
	case said.ins != (api.Ins{}):
		return f.put(number, said)
	}
	return api.OK // an empty line
}

// mark puts a label where the next instruction will stand.
func (f *filter) mark(label string) api.Errno {
	if _, there := f.labels[label]; there {
		return api.ErrLabel
	}
	f.labels[label] = len(f.list)
	return api.OK
}

// put puts the instruction behind all others.
func (f *filter) put(number int, said sentence) api.Errno {
	if len(f.list) == api.MaxIns {
		return api.ErrLong
	}
	if said.to != "" {
		f.jumps = append(f.jumps, jump{line: number, at: len(f.list), label: said.to})
	}
	f.list = append(f.list, said.ins)
	return api.OK
}

// join gives the jumps to labels their Offs, or tells the first one that can
// have none.
func (f *filter) join() api.Fault {
	for _, j := range f.jumps {
		stands, there := f.labels[j.label]
		behind := j.at + 1
		f.list[j.at].Off = stands - behind
		// All else of it was right when it was read: what is not now is too far.
		if !there || !ins.Right(f.list[j.at]) {
			return api.Fault{Err: api.ErrLabel, At: j.line}
		}
	}
	return api.Fault{}
}
