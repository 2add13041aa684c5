package compile

import (
	"math/rand"
	"slices"
	"strings"
	"testing"

	"pleach/api"
	"pleach/ast"
	"pleach/code"
	"pleach/rules"
)

// grower makes random trees that the rules let be.
type grower struct {
	*rand.Rand
	fns  []api.Fn
	pure bool // without receives and without built-ins that only a process can do
}

func pick[T any](g *grower, l ...T) T { return l[g.Intn(len(l))] }

var someNames = []string{"A", "B", "C", "D", "E_1", "F"}

var comparisons = []string{"=:=", "=/=", "<", "=<", ">", ">="}

var pures = []api.Fn{{T: "error", N: 1}, {T: "exit", N: 1}, {T: "throw", N: 1}, {T: "element", N: 2}, {T: "length", N: 1}, {T: "hd", N: 1}, {T: "tl", N: 1}, {T: "tuple_size", N: 1}}

var builts = []api.Fn{{T: "self"}, {T: "exit", N: 2}, {T: "call", N: 3}, {T: "which_children", N: 1}, {T: "send", N: 2}}

func variable(s string) api.Node { return api.Node{K: api.NdVar, S: s} }

func number(n int) api.Node { return api.Node{K: api.NdInt, N: n} }

func word(s string) api.Node { return api.Node{K: api.NdAtom, S: s} }

func (g *grower) leaf(bound []string) api.Node {
	if len(bound) > 0 && g.Intn(2) == 0 {
		return variable(pick(g, bound...))
	}
	switch g.Intn(6) {
	case 0:
		return word(pick(g, "a", "b", "error", "throw", "true"))
	case 1:
		return api.Node{K: api.NdNil}
	case 2:
		f := pick(g, g.fns...)
		return api.Node{K: api.NdRef, S: f.S, T: f.T, N: f.N}
	case 3:
		return number(pick(g, api.MaxInt, -api.MaxInt-1, 0, -1))
	}
	return number(g.Intn(4))
}

// pattern binds names behind those that are bound.
func (g *grower) pattern(deep int, bound *[]string) api.Node {
	switch k := g.Intn(12); {
	case k < 5:
		s := pick(g, someNames...)
		if !slices.Contains(*bound, s) {
			*bound = append(slices.Clip(*bound), s)
		}
		return variable(s)
	case k == 5:
		return variable("_")
	case deep > 0 && k < 8:
		n := api.Node{K: api.NdTuple}
		for range g.Intn(4) {
			n.L = append(n.L, g.pattern(deep-1, bound))
		}
		return n
	case deep > 0 && k == 8:
		return api.Node{K: api.NdCons, L: []api.Node{g.pattern(deep-1, bound), g.pattern(deep-1, bound)}}
	case k == 9:
		return api.Node{K: api.NdNil}
	case k == 10:
		return word(pick(g, "a", "b"))
	}
	return number(g.Intn(4))
}

func (g *grower) guarded(deep int, bound []string) api.Node {
	if deep > 0 {
		switch g.Intn(6) {
		case 0:
			return api.Node{K: api.NdTuple, L: []api.Node{g.guarded(deep-1, bound)}}
		case 1, 2:
			return api.Node{K: api.NdOp, S: pick(g, "+", "-", "*"), L: []api.Node{g.guarded(deep-1, bound), g.guarded(deep-1, bound)}}
		}
	}
	for {
		if n := g.leaf(bound); n.K != api.NdRef {
			return n
		}
	}
}

func (g *grower) guard(bound []string) api.Node {
	n := api.Node{K: api.NdGuard}
	for range max(0, g.Intn(5)-2) {
		if g.Intn(2) == 0 {
			n.L = append(n.L, api.Node{K: api.NdTest, S: pick(g, "is_atom", "is_integer", "is_tuple", "is_list", "is_function"), L: []api.Node{g.guarded(1, bound)}})
			continue
		}
		n.L = append(n.L, api.Node{K: api.NdOp, S: pick(g, comparisons...), L: []api.Node{g.guarded(2, bound), g.guarded(2, bound)}})
	}
	return n
}

// clause is one of so many patterns, under names that are bound around it.
func (g *grower) clause(many, deep int, bound []string) api.Node {
	n := api.Node{K: api.NdClause, N: many}
	for range many {
		n.L = append(n.L, g.pattern(2, &bound))
	}
	n.L = append(n.L, g.guard(bound))
	n.L = append(n.L, g.exprs(1+g.Intn(2), deep, &bound)...)
	return n
}

// caught is a clause of try, of a class that is told by its name, or by a variable.
func (g *grower) caught(deep int, bound []string) api.Node {
	n := g.clause(2, deep, bound)
	if n.L[0].K == api.NdVar {
		return n
	}
	n = g.clause(1, deep, bound)
	n.N = 2
	n.L = slices.Insert(n.L, 0, word(pick(g, "error", "exit", "throw")))
	return n
}

func (g *grower) exprs(many, deep int, bound *[]string) []api.Node {
	var l []api.Node
	for range many {
		l = append(l, g.expr(deep, bound))
	}
	return l
}

// expr is an expression; what it binds is bound behind it.
func (g *grower) expr(deep int, bound *[]string) api.Node {
	if deep <= 0 {
		return g.leaf(*bound)
	}
	deep--
	switch g.Intn(20) {
	case 0, 1:
		return api.Node{K: api.NdTuple, L: g.exprs(g.Intn(4), deep, bound)}
	case 2:
		return api.Node{K: api.NdCons, L: g.exprs(2, deep, bound)}
	case 3, 4:
		return api.Node{K: api.NdOp, S: pick(g, "+", "-", "*", "div", "rem"), L: g.exprs(2, deep, bound)}
	case 5:
		return api.Node{K: api.NdOp, S: pick(g, comparisons...), L: g.exprs(2, deep, bound)}
	case 6, 7, 8:
		e := g.expr(deep, bound)
		return api.Node{K: api.NdMatch, L: []api.Node{g.pattern(2, bound), e}}
	case 9, 10:
		f := pick(g, g.fns...)
		return api.Node{K: api.NdRemote, S: f.S, T: f.T, L: g.exprs(f.N, deep, bound)}
	case 11:
		f := pick(g, pures...)
		if !g.pure && g.Intn(3) == 0 {
			f = pick(g, builts...)
		}
		return api.Node{K: api.NdCall, S: f.T, L: g.exprs(f.N, deep, bound)}
	case 12:
		if len(*bound) > 0 {
			return api.Node{K: api.NdApply, L: append([]api.Node{variable(pick(g, *bound...))}, g.exprs(g.Intn(3), deep, bound)...)}
		}
	case 13, 14, 15:
		return g.choice(api.NdCase, g.one, deep, *bound)
	case 16, 17:
		return g.choice(api.NdTry, g.caught, deep, *bound)
	case 18, 19:
		if !g.pure {
			return g.receive(deep, *bound)
		}
	}
	return g.leaf(*bound)
}

func (g *grower) one(deep int, bound []string) api.Node { return g.clause(1, deep, bound) }

// choice is a case or a try.
func (g *grower) choice(kind int8, clause func(deep int, bound []string) api.Node, deep int, bound []string) api.Node {
	in := bound
	n := api.Node{K: kind, L: []api.Node{g.expr(deep, &in)}}
	if kind == api.NdTry {
		in = bound
	}
	for range 1 + g.Intn(3) {
		n.L = append(n.L, clause(deep, in))
	}
	if kind == api.NdCase && g.Intn(3) > 0 {
		g.loosen(&n.L[len(n.L)-1])
	}
	return n
}

func (g *grower) receive(deep int, bound []string) api.Node {
	n := api.Node{K: api.NdRecv, N: g.Intn(2)}
	for range g.Intn(4) + 1 - n.N {
		n.L = append(n.L, g.clause(1, deep, bound))
	}
	if n.N == 1 {
		n.L = append(n.L, api.Node{K: api.NdAfter, L: g.exprs(2+g.Intn(2), deep, &bound)})
	}
	return n
}

// mods are modules of a few functions; calls of functions of the same one are told by their names alone.
func (g *grower) mods() api.Node {
	n := api.Node{K: api.NdMods}
	g.fns = nil
	modules := []string{"m", "n", "o"}
	for _, m := range modules {
		for _, arity := range []int{0, 1, 2, 8} {
			for _, s := range []string{"f", "g"} {
				if g.Intn(4) == 0 {
					g.fns = append(g.fns, api.Fn{S: m, T: s, N: arity})
				}
			}
		}
	}
	g.fns = append(g.fns, api.Fn{S: "o", T: "h", N: 1})
	for _, m := range modules {
		mod := api.Node{K: api.NdMod, S: m}
		for _, f := range g.fns {
			if f.S == m {
				mod.L = append(mod.L, g.function(f))
			}
		}
		n.L = append(n.L, mod)
	}
	return n
}

// local makes calls of functions of that module such as name no module; some stay.
func (g *grower) local(n *api.Node, module string) {
	if n.K == api.NdRemote && n.S == module && g.Intn(5) > 0 {
		n.K, n.S, n.T = api.NdCall, n.T, ""
	}
	for i := range n.L {
		g.local(&n.L[i], module)
	}
}

func (g *grower) function(f api.Fn) api.Node {
	n := api.Node{K: api.NdFun, S: f.T, N: f.N}
	for range 1 + g.Intn(3) {
		n.L = append(n.L, g.clause(f.N, 1+g.Intn(3), nil))
	}
	if g.Intn(4) > 0 {
		g.loosen(&n.L[len(n.L)-1])
	}
	g.local(&n, f.S)
	return n
}

// loosen makes a clause such that it goes, mostly.
func (g *grower) loosen(c *api.Node) {
	c.L[c.N].L = nil
	for i, p := range c.L[:c.N] {
		if vars := ast.Vars(p); p.K != api.NdVar && len(vars) == 0 {
			c.L[i] = variable("_")
		} else if len(vars) == 1 {
			c.L[i] = variable(vars[0])
		}
	}
}

// behind is the same tree with more functions behind all.
func (g *grower) behind(n api.Node) api.Node {
	last := n.L[len(n.L)-1]
	last.L = append(slices.Clip(last.L), g.function(api.Fn{S: "o", T: "new", N: g.Intn(3)}), g.function(api.Fn{S: "o", T: "h", N: 2}))
	n.L = append(slices.Clone(n.L[:len(n.L)-1]), last, api.Node{K: api.NdMod, S: "p", L: []api.Node{g.function(api.Fn{S: "p", T: "h", N: 1})}})
	return n
}

// wantRead holds Compile against the plain reading, and what follows of it.
func wantRead(t *testing.T, n api.Node) (api.Prog, bool) {
	t.Helper()
	r := read(n)
	limit := len(r.lines) > 4096 || r.wide || slices.ContainsFunc(r.fns, func(f api.Fn) bool { return f.Slots > 32 })
	p, e := Compile(n)
	if limit {
		if e != api.ErrLimit || len(p.Fns)+len(p.Ops)+len(p.Tab) > 0 {
			t.Fatalf("%s\n%v, %d instructions", ast.Text(n), e, len(p.Ops))
		}
		return p, false
	}
	if e != api.OK || code.Check(p) != api.OK || !slices.Equal(p.Fns, r.fns) || len(p.Tab) != r.tables {
		t.Fatalf("%s\n%v, %v, %v, not %v, %d tables", ast.Text(n), e, code.Check(p), p.Fns, r.fns, len(p.Tab))
	}
	if got := lines(p); !slices.Equal(got, r.lines) {
		t.Fatalf("%s\n%s\n%s", ast.Text(n), strings.Join(got, "\n"), strings.Join(r.lines, "\n"))
	}
	return p, true
}

// P14.1, P14.3: random trees against a plain reading of the chapter; functions put behind all change nothing ahead of them.
func TestRandom(t *testing.T) {
	g := &grower{Rand: rand.New(rand.NewSource(14))}
	seen := map[string]int{}
	for range 150 {
		n := g.mods()
		if at, e := rules.Check(n); e != api.OK {
			t.Fatalf("%s: %v at %d", ast.Text(n), e, at)
		}
		p, ok := wantRead(t, n)
		if !ok {
			seen["limit"]++
			continue
		}
		for _, c := range p.Ops {
			seen[words[c.Op]]++
		}
		wantFunctions(t, n, p)
		wantWalk(t, n)
		if more, ok := wantRead(t, g.behind(n)); ok {
			seen["behind"]++
			wantAhead(t, p, more)
		}
	}
	for _, s := range append(words[:], "behind") {
		if seen[s] < 100 {
			t.Error("too few:", s, seen[s])
		}
	}
}

// wantAhead holds that what stands ahead in a code is what stood alone.
func wantAhead(t *testing.T, p, more api.Prog) {
	t.Helper()
	head := api.Prog{Fns: more.Fns[:len(p.Fns)], Ops: more.Ops[:len(p.Ops)], Tab: more.Tab[:len(p.Tab)]}
	if !code.Same(p, head) {
		t.Fatalf("%v, not %v", head, p)
	}
}

// wantFunctions holds that each function begins where the one ahead ends, and that Function tells each.
func wantFunctions(t *testing.T, n api.Node, p api.Prog) {
	t.Helper()
	at := 0
	for _, f := range p.Fns {
		l, e := Function(n, f.S, f.T, f.N)
		if e != api.OK || f.At != at || len(l) == 0 || at+len(l) > len(p.Ops) || !code.Same(api.Prog{Ops: l}, api.Prog{Ops: p.Ops[at : at+len(l)]}) {
			t.Fatalf("%s:%s/%d: %v, %d instructions", f.S, f.T, f.N, e, len(l))
		}
		at += len(l)
	}
	if at != len(p.Ops) {
		t.Fatalf("%d of %d instructions", at, len(p.Ops))
	}
}

// wantWalk holds Walk against a plain reading.
func wantWalk(t *testing.T, n api.Node) {
	t.Helper()
	type step struct {
		fn int
		e  api.Node
	}
	var want []step
	fn := 0
	for _, m := range n.L {
		for _, f := range m.L {
			for _, c := range f.L {
				for _, e := range c.L[f.N+1:] {
					want = append(want, step{fn, e})
				}
			}
			fn++
		}
	}
	i := 0
	for fn, e := range Walk(n) {
		if i == len(want) || fn != want[i].fn || !ast.Same(e, want[i].e) {
			t.Fatalf("%s: the step %d, of %d", ast.Text(n), i, fn)
		}
		i++
	}
	if i != len(want) {
		t.Fatalf("%s: %d steps of %d", ast.Text(n), i, len(want))
	}
}
