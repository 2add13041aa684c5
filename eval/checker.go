package eval

import (
	"pleach/api"
	"pleach/ast"
	"pleach/rules"
)

// checker holds an expression that is handed in against the rules of names and of functions.
type checker struct {
	functions functions
	module    string
}

// bound is the names that a part binds, within those that are bound around it.
type bound struct {
	names  map[string]struct{}
	around *bound
}

// lets tells whether all names that an expression tells are bound, and all functions that it names are there.
func (c checker) lets(e api.Node, l []api.Bind) bool {
	b := inside(nil)
	for _, x := range l {
		b.names[x.S] = struct{}{}
	}
	return c.over(e, b)
}

// over goes over a node as names are bound.
func (c checker) over(n api.Node, b *bound) bool {
	if !c.there(n) {
		return false
	}
	switch n.K {
	case api.NdVar:
		return b.has(n.S)
	case api.NdMatch:
		ok := c.over(n.L[1], b)
		b.pattern(n.L[0])
		return ok
	case api.NdClause:
		b = inside(b)
		for _, p := range n.L[:n.N] {
			b.pattern(p)
		}
		return c.all(n.L[n.N:], b)
	case api.NdCase, api.NdAfter:
		return c.all(n.L, inside(b))
	case api.NdTry:
		return c.over(n.L[0], inside(b)) && c.all(n.L[1:], b)
	}
	return c.all(n.L, b)
}

func (c checker) all(l []api.Node, b *bound) bool {
	return each(l, func(n api.Node) bool { return c.over(n, b) })
}

// there tells whether the function that a node names, if it names one, is there.
func (c checker) there(n api.Node) bool {
	many := len(n.L)
	switch n.K {
	case api.NdCall:
		return rules.Built(n.S, many) || c.functions.has(api.Fn{S: c.module, T: n.S, N: many})
	case api.NdRemote:
		return c.functions.has(api.Fn{S: n.S, T: n.T, N: many})
	case api.NdRef:
		return c.functions.has(api.Fn{S: n.S, T: n.T, N: n.N})
	}
	return true
}

// inside is for what binds names for itself alone.
func inside(around *bound) *bound { return &bound{map[string]struct{}{}, around} }

func (b *bound) pattern(p api.Node) {
	for _, s := range ast.Vars(p) {
		b.names[s] = struct{}{}
	}
}

func (b *bound) has(name string) bool {
	for ; b != nil; b = b.around {
		if _, ok := b.names[name]; ok {
			return true
		}
	}
	return false
}
