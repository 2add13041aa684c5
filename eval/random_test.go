package eval

import (
	"math/rand"
	"slices"
	"strings"
	"testing"

	"pleach/api"
	"pleach/ast"
	"pleach/rules"
)

// grower makes random trees that the rules let be, and expressions under them.
type grower struct {
	*rand.Rand
	fns []api.Fn
}

func pick[T any](g *grower, l ...T) T { return l[g.Intn(len(l))] }

// some are names, of which few are told.
var someNames = []string{"A", "B", "C", "D", "E"}

func (g *grower) atom() api.Node {
	return api.Node{K: api.NdAtom, S: pick(g, "a", "b", "error", "throw", "true")}
}

func (g *grower) leaf(bound []string) api.Node {
	if len(bound) > 0 && g.Intn(2) == 0 {
		return variable(pick(g, bound...))
	}
	switch g.Intn(8) {
	case 0:
		return g.atom()
	case 1:
		return api.Node{K: api.NdNil}
	case 2:
		if f := pick(g, g.fns...); f.N < 3 {
			return api.Node{K: api.NdRef, S: f.S, T: f.T, N: f.N}
		}
	case 3:
		return number(pick(g, edges...))
	}
	return number(g.Intn(4))
}

// pattern binds names behind those that are bound.
func (g *grower) pattern(deep int, bound *[]string) api.Node {
	switch k := g.Intn(12); {
	case k < 5:
		s := pick(g, someNames...)
		if !slices.Contains(*bound, s) {
			*bound = append(slices.Clip(*bound), s)
		}
		return variable(s)
	case k == 5:
		return variable("_")
	case deep > 0 && k < 8:
		n := tuple()
		for range g.Intn(4) {
			n.L = append(n.L, g.pattern(deep-1, bound))
		}
		return n
	case deep > 0 && k == 8:
		return api.Node{K: api.NdCons, L: []api.Node{g.pattern(deep-1, bound), g.pattern(deep-1, bound)}}
	case k == 9:
		return api.Node{K: api.NdNil}
	case k == 10:
		return g.atom()
	}
	return number(g.Intn(4))
}

func (g *grower) guarded(deep int, bound []string) api.Node {
	if deep > 0 {
		switch g.Intn(6) {
		case 0:
			return tuple(g.guarded(deep-1, bound))
		case 1, 2:
			return api.Node{K: api.NdOp, S: pick(g, "+", "-", "*"), L: []api.Node{g.guarded(deep-1, bound), g.guarded(deep-1, bound)}}
		}
	}
	for {
		if n := g.leaf(bound); n.K != api.NdRef {
			return n
		}
	}
}

func (g *grower) guard(bound []string) api.Node {
	n := api.Node{K: api.NdGuard}
	for range max(0, g.Intn(5)-2) {
		if g.Intn(2) == 0 {
			n.L = append(n.L, api.Node{K: api.NdTest, S: pick(g, "is_atom", "is_integer", "is_tuple", "is_list", "is_function"), L: []api.Node{g.guarded(1, bound)}})
			continue
		}
		n.L = append(n.L, api.Node{K: api.NdOp, S: pick(g, comparisons...), L: []api.Node{g.guarded(2, bound), g.guarded(2, bound)}})
	}
	return n
}

// clause is one of so many patterns, under names that are bound around it.
func (g *grower) clause(many, deep int, bound []string) api.Node {
	n := api.Node{K: api.NdClause, N: many}
	for range many {
		n.L = append(n.L, g.pattern(2, &bound))
	}
	n.L = append(n.L, g.guard(bound))
	for range 1 + g.Intn(2) {
		n.L = append(n.L, g.expr(deep, &bound))
	}
	return n
}

// caught is a clause of try, of a class that is told by its name, or by a variable.
func (g *grower) caught(deep int, bound []string) api.Node {
	n := g.clause(2, deep, bound)
	if n.L[0].K == api.NdVar {
		return n
	}
	n = g.clause(1, deep, bound)
	n.N = 2
	n.L = slices.Insert(n.L, 0, api.Node{K: api.NdAtom, S: pick(g, "error", "exit", "throw")})
	return n
}

func (g *grower) exprs(many, deep int, bound *[]string) []api.Node {
	var l []api.Node
	for range many {
		l = append(l, g.expr(deep, bound))
	}
	return l
}

// expr is an expression; what it binds is bound behind it.
func (g *grower) expr(deep int, bound *[]string) api.Node {
	if deep <= 0 {
		return g.leaf(*bound)
	}
	deep--
	switch g.Intn(20) {
	case 0, 1:
		return tuple(g.exprs(g.Intn(4), deep, bound)...)
	case 2:
		return api.Node{K: api.NdCons, L: g.exprs(2, deep, bound)}
	case 3:
		return api.Node{K: api.NdOp, S: pick(g, sums...), L: g.exprs(2, deep, bound)}
	case 4:
		return api.Node{K: api.NdOp, S: pick(g, sums...), L: []api.Node{number(pick(g, edges...)), number(pick(g, edges...))}}
	case 5:
		return api.Node{K: api.NdOp, S: pick(g, comparisons...), L: g.exprs(2, deep, bound)}
	case 6, 7, 8:
		e := g.expr(deep, bound)
		return api.Node{K: api.NdMatch, L: []api.Node{g.pattern(2, bound), e}}
	case 9, 10:
		f := pick(g, g.fns...)
		return api.Node{K: api.NdRemote, S: f.S, T: f.T, L: g.exprs(f.N, deep, bound)}
	case 11:
		f := pick(g, pures...)
		if g.Intn(20) == 0 {
			f = pick(g, builts...)
		}
		return api.Node{K: api.NdCall, S: f.T, L: g.exprs(f.N, deep, bound)}
	case 12:
		if len(*bound) > 0 {
			return api.Node{K: api.NdApply, L: append([]api.Node{variable(pick(g, *bound...))}, g.exprs(g.Intn(3), deep, bound)...)}
		}
	case 13, 14, 15:
		return g.choice(api.NdCase, g.one, deep, *bound)
	case 16, 17, 18:
		return g.choice(api.NdTry, g.caught, deep, *bound)
	case 19:
		if g.Intn(10) == 0 {
			return api.Node{K: api.NdRecv, L: []api.Node{g.clause(1, deep, *bound)}}
		}
	}
	return g.leaf(*bound)
}

func (g *grower) one(deep int, bound []string) api.Node { return g.clause(1, deep, bound) }

// choice is a case or a try.
func (g *grower) choice(kind int8, clause func(deep int, bound []string) api.Node, deep int, bound []string) api.Node {
	here := bound
	n := api.Node{K: kind, L: []api.Node{g.expr(deep, &here)}}
	if kind == api.NdTry {
		here = bound
	}
	for range 1 + g.Intn(3) {
		n.L = append(n.L, clause(deep, here))
	}
	if kind == api.NdCase && g.Intn(3) > 0 {
		g.loosen(&n.L[len(n.L)-1])
	}
	return n
}

// mods are two modules of a few functions; calls of functions of the same one are told by their names alone.
func (g *grower) mods() api.Node {
	n := api.Node{K: api.NdMods}
	g.fns = nil
	for _, m := range []string{"m", "n"} {
		for arity := range 3 {
			for _, s := range []string{"f", "g"} {
				if g.Intn(2) == 0 {
					g.fns = append(g.fns, api.Fn{S: m, T: s, N: arity})
				}
			}
		}
		g.fns = append(g.fns, api.Fn{S: m, T: "h", N: 1})
	}
	for _, m := range []string{"m", "n"} {
		mod := api.Node{K: api.NdMod, S: m}
		for _, f := range g.fns {
			if f.S == m {
				mod.L = append(mod.L, g.function(f))
			}
		}
		change(&mod, func(n *api.Node) { local(n, m) })
		n.L = append(n.L, mod)
	}
	return n
}

// local makes calls of functions of that module such as name no module.
func local(n *api.Node, module string) {
	if n.K == api.NdRemote && n.S == module && n.T != "h" {
		n.K, n.S, n.T = api.NdCall, n.T, ""
	}
}

func (g *grower) function(f api.Fn) api.Node {
	n := api.Node{K: api.NdFun, S: f.T, N: f.N}
	for range 1 + g.Intn(3) {
		n.L = append(n.L, g.clause(f.N, 1+g.Intn(3), nil))
	}
	if g.Intn(4) > 0 {
		g.loosen(&n.L[len(n.L)-1])
	}
	return n
}

// loosen makes a clause such that it goes, mostly.
func (g *grower) loosen(c *api.Node) {
	c.L[c.N].L = nil
	for i, p := range c.L[:c.N] {
		if vars := ast.Vars(p); p.K != api.NdVar && len(vars) == 0 {
			c.L[i] = variable("_")
		} else if len(vars) == 1 {
			c.L[i] = variable(vars[0])
		}
	}
}

// some is a term that may be.
func (g *grower) some() api.Term {
	for {
		if x := g.term(2); nodesOf(x) <= api.MaxTerm {
			return x
		}
	}
}

func (g *grower) term(deep int) api.Term {
	switch k := g.Intn(9); {
	case k == 0:
		return word(pick(g, "a", "b", "throw"))
	case k == 1:
		f := pick(g, g.fns...)
		return api.Term{K: api.KFun, S: f.S, T: f.T, N: f.N}
	case k == 2:
		return api.Term{K: pick(g, api.KNil, api.KRef, api.KPid)}
	case k == 3 && deep > 0:
		return api.Term{K: api.KCons, L: []api.Term{g.term(deep - 1), g.term(deep - 1)}}
	case k == 4 && deep > 0:
		x := tupleOf()
		for range g.Intn(4) {
			x.L = append(x.L, g.term(deep-1))
		}
		return x
	case k == 5 && g.Intn(3) == 0:
		return wide(pick(g, 100, 127, 128, 253, 254, 255, 256) - deep*20)
	case k == 6:
		return num(pick(g, edges...))
	}
	return num(g.Intn(4))
}

// any is a call of a function, or an expression.
func (g *grower) any(n api.Node) given {
	if g.Intn(2) == 0 {
		f := pick(g, g.fns...)
		in := given{N: n, Module: f.S, Name: f.T}
		for range f.N {
			in.Args = append(in.Args, g.some())
		}
		return in
	}
	in := given{N: n, Module: pick(g, "m", "n")}
	var bound []string
	for range g.Intn(4) {
		s := pick(g, someNames...)
		bound = append(bound, s)
		in.L = append(in.L, api.Bind{S: s, T: g.some()})
	}
	in.E = g.expr(1+g.Intn(5), &bound)
	change(&in.E, func(n *api.Node) { local(n, in.Module) })
	return in
}

// behind is the same tree with more functions behind those of each module.
func (g *grower) behind(n api.Node) api.Node {
	more := api.Node{K: api.NdMods}
	for _, m := range n.L {
		m.L = append(slices.Clip(m.L), g.function(api.Fn{S: m.S, T: "new", N: g.Intn(3)}), g.function(api.Fn{S: m.S, T: "h", N: 2}))
		more.L = append(more.L, m)
	}
	more.L = append(more.L, api.Node{K: api.NdMod, S: "o", L: []api.Node{g.function(api.Fn{S: "o", T: "h", N: 1})}})
	return more
}

// coarse is which kind of thing something comes to.
func coarse(out string) string {
	for _, s := range []string{"fuel", "deep", "pure", "exit:", "throw:", "error:badarith", "error:badarg", "error:{badmatch,", "error:{case_clause,", "error:{badfun,", "error:function_clause", "error:system_limit", "error:"} {
		if strings.HasPrefix(out, s) {
			return s
		}
	}
	return "value"
}

// P12.1, P12.2, P12.3: random calls and expressions against a plain reading of the chapter, with many and with few steps.
func TestRandom(t *testing.T) {
	g := &grower{Rand: rand.New(rand.NewSource(12))}
	seen := map[string]int{}
	for range 300 {
		n := g.mods()
		if at, e := rules.Check(n); e != api.OK {
			t.Fatalf("%s: %v at %d", ast.Text(n), e, at)
		}
		behind := g.behind(n)
		for range 12 {
			in := g.any(n)
			more := in
			more.N = behind
			if got, want := more.run(5000), in.run(5000); got != want {
				t.Fatalf("%s\n%s: %+v, with functions behind %+v", ast.Text(n), in.text(), want, got)
			}
			all := in.read(5000)
			seen[coarse(all.out)]++
			for _, steps := range []int{5000, 5000 - all.left, max(0, 5000-all.left-1), g.Intn(60)} {
				got := in.run(steps)
				if want := in.read(steps); got != want {
					t.Fatalf("%s\n%s with %d: %+v, not %+v", ast.Text(n), in.text(), steps, got, want)
				}
				if got.out != "fuel" && (got.out != all.out || got.l != all.l || got.left != steps-5000+all.left) {
					t.Fatalf("%s with %d: %+v, with more %+v", in.text(), steps, got, all)
				}
				if got.out == "fuel" {
					seen["fuel"]++
				}
			}
		}
	}
	for _, s := range []string{"value", "fuel", "deep", "pure", "exit:", "throw:", "error:badarith", "error:badarg", "error:{badmatch,", "error:{case_clause,", "error:{badfun,", "error:function_clause", "error:system_limit", "error:"} {
		if seen[s] < 25 {
			t.Error("too few:", s, seen[s])
		}
	}
}

// P12.2: whether names are bound, by the rules: an expression is let be under names just if a function of them, with it as its body, is.
func TestRandomBound(t *testing.T) {
	g := &grower{Rand: rand.New(rand.NewSource(13))}
	seen := map[bool]int{}
	for range 3000 {
		n := g.mods()
		bound := slices.Clone(someNames)
		e := g.expr(1+g.Intn(5), &bound)
		// Some calls are of functions of one module that are in the other one alone.
		change(&e, func(n *api.Node) { local(n, pick(g, "m", "n")) })
		in := given{N: n, Module: pick(g, "m", "n"), E: e}
		f := api.Node{K: api.NdFun, S: "whole", L: []api.Node{{K: api.NdClause, L: []api.Node{{K: api.NdGuard}, e}}}}
		for _, s := range someNames {
			if g.Intn(3) > 0 {
				in.L = append(in.L, api.Bind{S: s, T: num(1)})
				f.N++
				f.L[0].N++
				f.L[0].L = slices.Insert(f.L[0].L, 0, variable(s))
			}
		}
		whole := api.Node{K: api.NdMods}
		for _, m := range n.L {
			if m.S == in.Module {
				m.L = append(slices.Clone(m.L), f)
			}
			whole.L = append(whole.L, m)
		}
		_, refused := rules.Check(whole)
		if refused == api.ErrLimit || refused == api.ErrTree {
			continue
		}
		seen[refused == api.OK]++
		if got := in.run(9); (got.e == api.OK) != (refused == api.OK) {
			t.Fatalf("%s: %v, the rules %v", in.text(), got.e, refused)
		}
	}
	if min(seen[true], seen[false]) < 500 {
		t.Error("too few:", seen)
	}
}
