package eval

import (
	"slices"

	"pleach/api"
	"pleach/term"
)

// halted is what ends a reading, where there is no value.
type halted struct{ o api.Out }

// model reads the chapter plainly: names are handed on from part to part, and what comes to no value is a panic.
type model struct {
	n    api.Node
	left int
}

// place is where an expression is gone over.
type place struct {
	module string
	deep   int
}

func halt(o api.Out) { panic(halted{o}) }

func fail(s string) { halt(api.Out{Class: api.ClError, T: word(s)}) }

// failPair fails with a pair, if that is not too great.
func failPair(s string, x api.Term) {
	if nodesOf(x)+2 > 256 {
		fail("system_limit")
	}
	halt(api.Out{Class: api.ClError, T: tupleOf(word(s), x)})
}

func nodesOf(x api.Term) int {
	n := 1
	for _, p := range x.L {
		n += nodesOf(p)
	}
	return n
}

// reading is what something comes to.
func reading(value func() api.Term) (o api.Out) {
	defer func() {
		if h := recover(); h != nil {
			o = h.(halted).o
		}
	}()
	return api.Out{T: value()}
}

func (m *model) call(module, name string, args []api.Term, deep int) api.Term {
	if deep == 63 {
		halt(api.Out{Why: api.WhyDeep})
	}
	for _, mod := range m.n.L {
		for _, f := range mod.L {
			if mod.S != module || f.S != name || f.N != len(args) {
				continue
			}
			if x, ok := m.clauses(f.L, args, nil, place{module, deep + 1}); ok {
				return x
			}
			fail("function_clause")
		}
	}
	panic("no such function")
}

func (m *model) there(module, name string, arity int) bool {
	return slices.ContainsFunc(m.n.L, func(mod api.Node) bool {
		return mod.S == module && slices.ContainsFunc(mod.L, func(f api.Node) bool { return f.S == name && f.N == arity })
	})
}

func (m *model) clauses(l []api.Node, args []api.Term, names []api.Bind, at place) (api.Term, bool) {
	for _, c := range l {
		here, ok := names, true
		for i := range args {
			if ok {
				here, ok = fits(c.L[i], args[i], here)
			}
		}
		for _, test := range c.L[len(args)].L {
			ok = ok && holds(test, here)
		}
		if !ok {
			continue
		}
		var x api.Term
		for _, e := range c.L[len(args)+1:] {
			x, here = m.expr(e, here, at)
		}
		return x, true
	}
	return api.Term{}, false
}

// told is what the first one of a name says.
func told(names []api.Bind, s string) (api.Term, bool) {
	for _, b := range names {
		if b.S == s {
			return b.T, true
		}
	}
	return api.Term{}, false
}

func sameTerm(a, b api.Term) bool {
	return a.K == b.K && a.N == b.N && a.S == b.S && a.T == b.T && slices.EqualFunc(a.L, b.L, sameTerm)
}

func fits(p api.Node, x api.Term, names []api.Bind) ([]api.Bind, bool) {
	switch p.K {
	case api.NdVar:
		if p.S == "_" {
			return names, true
		}
		if y, ok := told(names, p.S); ok {
			return names, sameTerm(x, y)
		}
		return append(slices.Clone(names), api.Bind{S: p.S, T: x}), true
	case api.NdInt, api.NdAtom, api.NdNil:
		return names, sameTerm(x, leafOf(p))
	}
	if x.K != (map[int8]int8{api.NdCons: api.KCons, api.NdTuple: api.KTuple})[p.K] || len(x.L) != len(p.L) {
		return names, false
	}
	ok := true
	for i := range p.L {
		if ok {
			names, ok = fits(p.L[i], x.L[i], names)
		}
	}
	return names, ok
}

func leafOf(n api.Node) api.Term {
	k := map[int8]int8{api.NdInt: api.KInt, api.NdAtom: api.KAtom, api.NdNil: api.KNil, api.NdRef: api.KFun}[n.K]
	return api.Term{K: k, N: n.N, S: n.S, T: n.T}
}

// holds tells whether a test does; no test with a part that comes to no value.
func holds(test api.Node, names []api.Bind) bool {
	m := &model{left: 1 << 20}
	if test.K == api.NdTest {
		o := reading(func() api.Term { x, _ := m.expr(test.L[0], names, place{}); return x })
		kinds := map[string][]int8{"is_atom": {api.KAtom}, "is_integer": {api.KInt}, "is_pid": {api.KPid}, "is_reference": {api.KRef}, "is_tuple": {api.KTuple}, "is_list": {api.KNil, api.KCons}, "is_function": {api.KFun}}
		return o.Class == api.ClNone && slices.Contains(kinds[test.S], o.T.K)
	}
	o := reading(func() api.Term { x, _ := m.expr(test, names, place{}); return x })
	return o.Class == api.ClNone && sameTerm(o.T, word("true"))
}

// built is what an expression of a tuple, a cons, an operation comes to by its parts.
func built(n api.Node, l []api.Term) api.Term {
	k := api.KTuple
	switch n.K {
	case api.NdOp:
		return operation(n.S, l[0], l[1])
	case api.NdCons:
		k = api.KCons
	}
	x := api.Term{K: k, L: l}
	if nodesOf(x) > 256 {
		fail("system_limit")
	}
	return x
}

func operation(op string, a, b api.Term) api.Term {
	c := term.Compare(a, b)
	if i := slices.Index(comparisons, op); i >= 0 {
		if []bool{c == 0, c != 0, c < 0, c <= 0, c > 0, c >= 0}[i] {
			return word("true")
		}
		return word("false")
	}
	if a.K != api.KInt || b.K != api.KInt {
		fail("badarith")
	}
	switch s := exact(op, a.N, b.N); s {
	case "error:badarith":
		fail("badarith")
	case "error:system_limit":
		fail("system_limit")
	default:
		x, _, _ := term.Read(s)
		return x
	}
	panic("not here")
}

// builtIn is what a built-in comes to.
func builtIn(name string, l []api.Term) api.Term {
	if len(l) == 1 {
		x := l[0]
		switch name {
		case "error":
			halt(api.Out{Class: api.ClError, T: x})
		case "exit":
			halt(api.Out{Class: api.ClExit, T: x})
		case "throw":
			halt(api.Out{Class: api.ClThrow, T: x})
		case "hd", "tl":
			if x.K != api.KCons {
				fail("badarg")
			}
			return x.L[map[string]int{"hd": 0, "tl": 1}[name]]
		case "length":
			many := 0
			for ; x.K == api.KCons; x = x.L[1] {
				many++
			}
			if x.K != api.KNil {
				fail("badarg")
			}
			return num(many)
		case "tuple_size":
			if x.K != api.KTuple {
				fail("badarg")
			}
			return num(len(x.L))
		}
	}
	if len(l) == 2 && name == "element" {
		if l[0].K != api.KInt || l[1].K != api.KTuple || l[0].N < 1 || l[0].N > len(l[1].L) {
			fail("badarg")
		}
		return l[1].L[l[0].N-1]
	}
	halt(api.Out{Why: api.WhyPure})
	return api.Term{}
}

// expr is what an expression comes to, and the names behind it.
func (m *model) expr(n api.Node, names []api.Bind, at place) (api.Term, []api.Bind) {
	if m.left == 0 {
		halt(api.Out{Why: api.WhyFuel})
	}
	m.left--
	switch n.K {
	case api.NdVar:
		x, ok := told(names, n.S)
		if !ok || n.S == "_" {
			fail("not bound") // in a guard alone, of which it is then nothing
		}
		return x, names
	case api.NdInt, api.NdAtom, api.NdNil, api.NdRef:
		return leafOf(n), names
	case api.NdMatch:
		x, names := m.expr(n.L[1], names, at)
		behind, ok := fits(n.L[0], x, names)
		if !ok {
			failPair("badmatch", x)
		}
		return x, behind
	case api.NdCase:
		x, here := m.expr(n.L[0], names, at)
		y, ok := m.clauses(n.L[1:], []api.Term{x}, here, at)
		if !ok {
			failPair("case_clause", x)
		}
		return y, names
	case api.NdTry:
		return m.try(n, names, at), names
	case api.NdRecv:
		halt(api.Out{Why: api.WhyPure})
	}
	var l []api.Term
	for _, p := range n.L {
		var x api.Term
		x, names = m.expr(p, names, at)
		l = append(l, x)
	}
	return m.whole(n, l, at), names
}

// whole is what an expression comes to by what its parts come to.
func (m *model) whole(n api.Node, l []api.Term, at place) api.Term {
	switch n.K {
	case api.NdCall:
		if m.there(at.module, n.S, len(l)) {
			return m.call(at.module, n.S, l, at.deep)
		}
		return builtIn(n.S, l)
	case api.NdRemote:
		return m.call(n.S, n.T, l, at.deep)
	case api.NdApply:
		f := l[0]
		if f.K != api.KFun || f.N != len(l)-1 || !m.there(f.S, f.T, f.N) {
			failPair("badfun", f)
		}
		return m.call(f.S, f.T, l[1:], at.deep)
	}
	return built(n, l)
}

func (m *model) try(n api.Node, names []api.Bind, at place) api.Term {
	o := reading(func() api.Term { x, _ := m.expr(n.L[0], names, at); return x })
	if o.Class == api.ClNone {
		if o.Why != api.WhyNot {
			halt(o)
		}
		return o.T
	}
	class := []string{"", "error", "exit", "throw"}[o.Class]
	x, ok := m.clauses(n.L[1:], []api.Term{word(class), o.T}, names, at)
	if !ok {
		halt(o)
	}
	return x
}

// read is what a call is to answer; the tree and all else may be.
func (g given) read(steps int) answer {
	m := &model{g.N, steps}
	names := g.L
	o := reading(func() (x api.Term) {
		if g.Name != "" {
			return m.call(g.Module, g.Name, g.Args, 0)
		}
		x, names = m.expr(g.E, g.L, place{g.Module, 0})
		return x
	})
	return answer{out: tell(o), l: show(names), left: m.left}
}
