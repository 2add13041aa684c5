package rules

import (
	"maps"
	"slices"

	"pleach/api"
	"pleach/ast"
)

// set is the names that are bound.
type set map[string]bool

// and is a set with one name more.
func (s set) and(name string) set {
	s = maps.Clone(s)
	s[name] = true
	return s
}

// model reads the chapter's rules of names and slots plainly: each part answers what is bound behind it.
type model struct {
	arity   int
	unbound []int
	over    []int
	first   []string
}

// mods goes over all clauses of all functions.
func (m *model) mods(n api.Node) {
	at := 1
	for _, mod := range n.L {
		at++
		for _, f := range mod.L {
			at++
			m.arity = f.N
			for _, c := range f.L {
				m.clause(c, at, set{})
				at += count(c)
			}
		}
	}
}

// spread are the places of a node's parts.
func spread(n api.Node, at int) []int {
	var l []int
	at++
	for _, p := range n.L {
		l = append(l, at)
		at += count(p)
	}
	return l
}

func (m *model) clause(n api.Node, at int, s set) {
	for i, p := range spread(n, at) {
		if i < n.N {
			s = m.pattern(n.L[i], p, s)
		} else {
			s = m.expr(n.L[i], p, s)
		}
	}
}

func (m *model) pattern(n api.Node, at int, s set) set {
	if n.K == api.NdVar && n.S != "_" && !s[n.S] {
		s = s.and(n.S)
		if m.arity+len(s) > 32 {
			m.over = append(m.over, at)
		}
		if !slices.Contains(m.first, n.S) {
			m.first = append(m.first, n.S)
		}
	}
	for i, p := range spread(n, at) {
		s = m.pattern(n.L[i], p, s)
	}
	return s
}

func (m *model) expr(n api.Node, at int, s set) set {
	l := spread(n, at)
	switch n.K {
	case api.NdVar:
		if !s[n.S] {
			m.unbound = append(m.unbound, at)
		}
	case api.NdMatch:
		return m.pattern(n.L[0], l[0], m.expr(n.L[1], l[1], s))
	case api.NdCase, api.NdTry:
		behind := m.expr(n.L[0], l[0], s)
		if n.K == api.NdTry {
			behind = s
		}
		for i := 1; i < len(l); i++ {
			m.clause(n.L[i], l[i], behind)
		}
		return s
	case api.NdRecv:
		for i, p := range l {
			// An NdAfter has no patterns: it goes as a clause does.
			m.clause(n.L[i], p, s)
		}
		return s
	}
	for i, p := range l {
		s = m.expr(n.L[i], p, s)
	}
	return s
}

// reading is what Check is to answer.
func reading(n api.Node) (at int, e api.Errno) {
	if ast.Check(n) != api.OK {
		return 0, api.ErrTree
	}
	m := &model{}
	m.mods(n)
	twice := modulesTwice(n)
	if len(twice) == 0 {
		twice = functionsTwice(n)
	}
	if len(twice) > 0 {
		return slices.Min(twice), api.ErrTwice
	}
	if len(m.unbound) > 0 {
		return slices.Min(m.unbound), api.ErrBind
	}
	if at, e = uncalled(n); e != api.OK {
		return at, e
	}
	if len(m.over) > 0 {
		return m.over[0], api.ErrLimit
	}
	return 0, api.OK
}

func modulesTwice(n api.Node) []int {
	var l []int
	p := spread(n, 0)
	for i := range n.L {
		for j := range i {
			if n.L[i].S == n.L[j].S {
				l = append(l, p[i])
			}
		}
	}
	return l
}

func functionsTwice(n api.Node) []int {
	var l []int
	for k, at := range spread(n, 0) {
		mod := n.L[k]
		p := spread(mod, at)
		for i, f := range mod.L {
			for _, g := range mod.L[:i] {
				if f.S == g.S && f.N == g.N {
					l = append(l, p[i])
				}
			}
		}
	}
	return l
}

// uncalled is the least place at which the rule of functions is broken.
func uncalled(n api.Node) (int, api.Errno) {
	has := func(module, name string, arity int) bool {
		for _, m := range n.L {
			for _, f := range m.L {
				if m.S == module && f.S == name && f.N == arity {
					return true
				}
			}
		}
		return false
	}
	built := builtIns()
	at, found, e := -1, 0, api.OK
	module := ""
	var walk func(n api.Node)
	walk = func(n api.Node) {
		at++
		bad := api.OK
		switch {
		case n.K == api.NdMod:
			module = n.S
		case n.K == api.NdFun && slices.Contains(built, api.Fn{T: n.S, N: n.N}):
			bad = api.ErrTwice
		case n.K == api.NdCall && !slices.Contains(built, api.Fn{T: n.S, N: len(n.L)}) && !has(module, n.S, len(n.L)), n.K == api.NdRemote && !has(n.S, n.T, len(n.L)), n.K == api.NdRef && !has(n.S, n.T, n.N):
			bad = api.ErrCall
		}
		if bad != api.OK && e == api.OK {
			found, e = at, bad
		}
		for _, p := range n.L {
			walk(p)
		}
	}
	walk(n)
	return found, e
}
