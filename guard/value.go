package guard

import (
	"slices"

	"pleach/api"
	"pleach/ast"
	"pleach/ints"
	"pleach/term"
)

const (
	layer   = 11                // by which refusals name this layer
	kinds   = int(api.NdOp) + 1 // of nodes; those of guard expressions are the last ones
	anybody = "_"               // the name that is never bound
)

// valuer tells the value of a guard expression that may be, or why it has none.
type valuer func(n api.Node) (api.Term, error)

// firsts holds what the first bind of each name says.
type firsts map[string]api.Term

func valueOf(n api.Node, l []api.Bind) (api.Term, error) {
	if !ast.Guarded(n) || !may(l) {
		return api.Term{}, refused(api.ErrArg)
	}
	return under(l)(n)
}

// refused wraps the number by which an expression is refused.
func refused(e api.Errno) error { return &api.Refused{Layer: layer, E: e} }

// under is the valuer under those names, whose terms may be.
func under(l []api.Bind) valuer {
	puts := putters(firstsOf(l))
	var value valuer
	value = func(n api.Node) (api.Term, error) {
		var parts []api.Term
		for _, p := range n.L {
			t, err := value(p)
			if err != nil {
				return api.Term{}, err
			}
			parts = append(parts, t)
		}
		t, e := puts[n.K](n, parts)
		// By whatever number a layer below refuses, to a guard it is no value.
		if e != api.OK {
			return api.Term{}, refused(api.ErrGuard)
		}
		return t, nil
	}
	return value
}

// putters put a node's value together from its parts' values, by its kind.
func putters(bound firsts) [kinds]func(n api.Node, parts []api.Term) (api.Term, api.Errno) {
	return [kinds]func(n api.Node, parts []api.Term) (api.Term, api.Errno){
		api.NdVar: bound.variable,
		api.NdInt: func(n api.Node, _ []api.Term) (api.Term, api.Errno) {
			return api.Term{K: api.KInt, N: n.N}, api.OK
		},
		api.NdAtom: func(n api.Node, _ []api.Term) (api.Term, api.Errno) {
			return api.Term{K: api.KAtom, S: n.S}, api.OK
		},
		api.NdNil:   func(api.Node, []api.Term) (api.Term, api.Errno) { return api.Term{K: api.KNil}, api.OK },
		api.NdCons:  func(_ api.Node, p []api.Term) (api.Term, api.Errno) { return term.Cons(p[0], p[1]) },
		api.NdTuple: func(_ api.Node, p []api.Term) (api.Term, api.Errno) { return term.Tuple(p) },
		api.NdOp:    arith,
	}
}

func firstsOf(l []api.Bind) firsts {
	f := firsts{}
	// From behind: what is put last, and stays, is the first one's.
	for _, b := range slices.Backward(l) {
		f[b.S] = b.T
	}
	return f
}

func (f firsts) variable(n api.Node, _ []api.Term) (api.Term, api.Errno) {
	t, ok := f[n.S]
	if !ok || n.S == anybody {
		return api.Term{}, api.ErrNone
	}
	return t, api.OK
}

func arith(n api.Node, p []api.Term) (api.Term, api.Errno) {
	a, b := p[0], p[1]
	if a.K != api.KInt || b.K != api.KInt {
		return api.Term{}, api.ErrArg
	}
	sum, e := ints.Do(n.S, a.N, b.N)
	return api.Term{K: api.KInt, N: sum}, e
}
