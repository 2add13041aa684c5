package frame

import (
	"slices"

	"pleach/api"
)

// unset is the Wait of a frame whose receive has no deadline.
const unset = -1

// begun is the frame of a function at its beginning.
func begun(at int, fn api.Fn, args []api.Term) api.Frame {
	f := api.Frame{
		Kind:  api.FrCode,
		Fn:    at,
		Pc:    fn.At,
		Slots: make([]api.Term, fn.Slots),
		Bound: make([]bool, fn.Slots),
		Wait:  unset,
	}
	for i := range copy(f.Slots, args) {
		f.Bound[i] = true
	}
	return f
}

// handed is a stack whose top is handed something: a machine's frame stays as it is, a code frame becomes what takes makes of it.
func handed(l []api.Frame, takes func(api.Frame) api.Frame) (rest []api.Frame, machine, over bool) {
	if len(l) == 0 {
		return nil, false, true
	}
	below, top := l[:len(l)-1], l[len(l)-1]
	if ofMachine(top) {
		return topped(below, top), true, false
	}
	return topped(below, takes(top)), false, false
}

// caught is a code frame whose last handler took an exception.
func caught(f api.Frame, class, t api.Term) api.Frame {
	last := len(f.Tries) - 1
	h := f.Tries[last]
	f.Tries = f.Tries[:last]
	f.Pc, f.Wait = h.At, unset
	// In a frame that nothing makes High may be anywhere.
	return pushed(f, min(max(h.High, 0), len(f.Stack)), class, t)
}

// pushed is a frame that keeps so many operands, with others on them. Its own row has no room behind those it keeps, so that what stood there is not written over.
func pushed(f api.Frame, keeps int, l ...api.Term) api.Frame {
	f.Stack = append(f.Stack[:keeps:keeps], l...)
	return f
}

// topped is a stack with a frame on top. There is no room behind the row that is handed in, so that all frames go to new memory.
func topped(l []api.Frame, f api.Frame) []api.Frame {
	l = append(l[:len(l):len(l)], f)
	for i := range l {
		l[i] = copied(l[i])
	}
	return l
}

// copied is a frame that shares no row with another one; parts of terms and of specifications never change.
func copied(f api.Frame) api.Frame {
	f.Slots = slices.Clone(f.Slots)
	f.Bound = slices.Clone(f.Bound)
	f.Stack = slices.Clone(f.Stack)
	f.Tries = slices.Clone(f.Tries)
	f.M.Recs = slices.Clone(f.M.Recs)
	f.M.Log = slices.Clone(f.M.Log)
	f.M.Todo = slices.Clone(f.M.Todo)
	return f
}
