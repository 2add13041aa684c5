package match

import (
	"pleach/api"
	"pleach/ast"
	"pleach/term"
)

// filler puts terms in the places of names.
type filler struct {
	bound firsts
	kinds [kinds]func(p api.Node) (api.Term, api.Errno)
}

// Fill: P10.3.
func Fill(p api.Node, l []api.Bind) (api.Term, api.Errno) {
	if !ast.Pattern(p) || !May(l) {
		return api.Term{}, api.ErrArg
	}
	return newFiller(l).kinds[p.K](p)
}

func newFiller(l []api.Bind) *filler {
	f := &filler{bound: firstsOf(l)}
	f.kinds = [kinds]func(p api.Node) (api.Term, api.Errno){
		api.NdVar:   f.variable,
		api.NdInt:   func(p api.Node) (api.Term, api.Errno) { return api.Term{K: api.KInt, N: p.N}, api.OK },
		api.NdAtom:  func(p api.Node) (api.Term, api.Errno) { return api.Term{K: api.KAtom, S: p.S}, api.OK },
		api.NdNil:   func(api.Node) (api.Term, api.Errno) { return api.Term{K: api.KNil}, api.OK },
		api.NdCons:  f.cons,
		api.NdTuple: f.tuple,
	}
	return f
}

func (f *filler) variable(p api.Node) (api.Term, api.Errno) {
	t, ok := f.bound[p.S]
	if !ok {
		return api.Term{}, api.ErrArg
	}
	return t, api.OK
}

func (f *filler) cons(p api.Node) (api.Term, api.Errno) {
	l, e := f.parts(p)
	if e != api.OK {
		return api.Term{}, e
	}
	return term.Cons(l[0], l[1])
}

func (f *filler) tuple(p api.Node) (api.Term, api.Errno) {
	l, e := f.parts(p)
	if e != api.OK {
		return api.Term{}, e
	}
	return term.Tuple(l)
}

// parts are the terms of a pattern's parts. A part that is too great ends nothing: behind it a name may stand that is not bound, and that goes ahead.
func (f *filler) parts(p api.Node) (l []api.Term, e api.Errno) {
parts:
	for _, n := range p.L {
		t, fault := f.kinds[n.K](n)
		switch fault {
		case api.OK:
			l = append(l, t)
		case api.ErrArg:
			e = fault
			break parts
		default:
			e = fault
		}
	}
	return l, e
}
