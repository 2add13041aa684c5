package rules

import (
	"iter"

	"pleach/api"
)

// spot is a node at its place, and the place behind all its parts.
type spot struct {
	api.Node
	behind int
}

// layout is the nodes of a tree by their places.
type layout []spot

// laid lays out a tree that may be.
func laid(n api.Node) layout {
	var l layout
	var lay func(n api.Node)
	lay = func(n api.Node) {
		at := len(l)
		l = append(l, spot{Node: n})
		for _, p := range n.L {
			lay(p)
		}
		l[at].behind = len(l)
	}
	lay(n)
	return l
}

// parts goes over the places of a node's parts.
func (l layout) parts(at int) iter.Seq[int] { return l.between(at+1, l[at].behind) }

// between goes over the places of the parts that stand from one place up to another.
func (l layout) between(from, to int) iter.Seq[int] {
	return func(yield func(int) bool) {
		for p := from; p < to && yield(p); p = l[p].behind {
		}
	}
}

// walk goes over a clause of a function as names are bound.
type walk struct {
	nodes  layout
	most   int                 // names that may be bound at once
	bound  map[string]struct{} // those that are bound here
	names  []string            // the same ones, in the order in which they were bound
	ever   map[string]struct{} // those that were bound anywhere
	order  []string            // the same ones, in the order in which they were bound first
	faults []error
}

// walked goes over the clause of a function that stands at that place.
func walked(nodes layout, clause int) *walk {
	w := &walk{
		nodes: nodes,
		most:  api.MaxSlots - nodes[clause].N,
		bound: map[string]struct{}{},
		ever:  map[string]struct{}{},
	}
	w.over(clause)
	return w
}

// over goes over a clause, or what stands behind its patterns.
func (w *walk) over(at int) {
	n := w.nodes[at]
	switch n.K {
	case api.NdVar:
		w.told(at)
	case api.NdMatch:
		w.over(w.nodes[at+1].behind)
		w.pattern(at + 1)
	case api.NdClause:
		w.within(func() { w.clause(at) })
	case api.NdCase, api.NdAfter:
		w.within(func() { w.all(at+1, n.behind) })
	case api.NdTry:
		w.within(func() { w.over(at + 1) })
		w.all(w.nodes[at+1].behind, n.behind)
	default:
		w.all(at+1, n.behind)
	}
}

func (w *walk) all(from, to int) {
	for p := range w.nodes.between(from, to) {
		w.over(p)
	}
}

func (w *walk) clause(at int) {
	n := w.nodes[at]
	next := at + 1
	for range n.N {
		w.pattern(next)
		next = w.nodes[next].behind
	}
	w.all(next, n.behind)
}

// pattern binds the names of a pattern.
func (w *walk) pattern(at int) {
	for p := at; p < w.nodes[at].behind; p++ {
		if w.nodes[p].K == api.NdVar && w.nodes[p].S != "_" {
			w.bind(p)
		}
	}
}

func (w *walk) bind(at int) {
	s := w.nodes[at].S
	if _, ok := w.bound[s]; ok {
		return
	}
	w.bound[s] = struct{}{}
	w.names = append(w.names, s)
	if len(w.names) > w.most {
		w.faults = append(w.faults, refused(api.ErrLimit, at))
	}
	if _, ok := w.ever[s]; !ok {
		w.ever[s] = struct{}{}
		w.order = append(w.order, s)
	}
}

// told holds that a name which a guard or an expression tells is bound; _ never is.
func (w *walk) told(at int) {
	if _, ok := w.bound[w.nodes[at].S]; !ok {
		w.faults = append(w.faults, refused(api.ErrBind, at))
	}
}

// within goes over what binds names for itself alone.
func (w *walk) within(over func()) {
	ahead := len(w.names)
	over()
	for _, s := range w.names[ahead:] {
		delete(w.bound, s)
	}
	w.names = w.names[:ahead]
}
