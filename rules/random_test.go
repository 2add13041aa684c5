package rules

import (
	"math/rand"
	"slices"
	"testing"

	"pleach/api"
	"pleach/ast"
)

// grower makes random trees of few names, so that some are let be, and each rule is broken by others.
type grower struct {
	*rand.Rand
	names []string
	calls bool // of functions that may not be there
}

func newGrower(seed int64, many int) *grower {
	return &grower{Rand: rand.New(rand.NewSource(seed)), names: append([]string{"_"}, names(many)...), calls: true}
}

func (g *grower) pick(l ...string) string { return l[g.Intn(len(l))] }

func (g *grower) list(many int, of func(deep int) api.Node, deep int) []api.Node {
	var l []api.Node
	for range many {
		l = append(l, of(deep))
	}
	return l
}

func (g *grower) leaf() api.Node {
	switch g.Intn(4) {
	case 0:
		return api.Node{K: api.NdInt, N: g.Intn(5) - 2}
	case 1:
		return api.Node{K: api.NdAtom, S: g.pick("a", "b")}
	case 2:
		return api.Node{K: api.NdNil}
	}
	return api.Node{K: api.NdVar, S: g.pick(g.names[1:]...)}
}

func (g *grower) pattern(deep int) api.Node {
	switch {
	case g.Intn(2) == 0:
		return api.Node{K: api.NdVar, S: g.pick(g.names...)}
	case deep <= 0 || g.Intn(3) == 0:
		return g.leaf()
	case g.Intn(3) == 0:
		return api.Node{K: api.NdCons, L: g.list(2, g.pattern, deep-1)}
	}
	return api.Node{K: api.NdTuple, L: g.list(g.Intn(4), g.pattern, deep-1)}
}

func (g *grower) guarded(deep int) api.Node {
	if deep > 0 && g.Intn(4) == 0 {
		return api.Node{K: api.NdOp, S: g.pick("+", "-", "*"), L: g.list(2, g.guarded, deep-1)}
	}
	return g.leaf()
}

func (g *grower) guard() api.Node {
	n := api.Node{K: api.NdGuard}
	for range max(0, g.Intn(5)-2) {
		p := api.Node{K: api.NdTest, S: "is_atom", L: g.list(1, g.guarded, 2)}
		if g.Intn(2) == 0 {
			p = api.Node{K: api.NdOp, S: "<", L: g.list(2, g.guarded, 2)}
		}
		n.L = append(n.L, p)
	}
	return n
}

func (g *grower) clause(many, deep int) api.Node {
	l := append(g.list(many, g.pattern, 2), g.guard())
	return api.Node{K: api.NdClause, N: many, L: append(l, g.list(1+g.Intn(3), g.expr, deep)...)}
}

func (g *grower) one(deep int) api.Node { return g.clause(1, deep) }

func (g *grower) caught(deep int) api.Node {
	c := g.clause(2, deep)
	c.L[0] = api.Node{K: api.NdAtom, S: "error"}
	if g.Intn(2) == 0 {
		c.L[0] = api.Node{K: api.NdVar, S: g.pick(g.names...)}
	}
	return c
}

func (g *grower) expr(deep int) api.Node {
	if deep <= 0 {
		return g.leaf()
	}
	deep--
	few := g.Intn(3)
	kind := g.Intn(16)
	if !g.calls && slices.Contains([]int{6, 7, 9}, kind) {
		return api.Node{K: api.NdCall, S: "hd", L: g.list(1, g.expr, deep)}
	}
	switch kind {
	case 0:
		return api.Node{K: api.NdCons, L: g.list(2, g.expr, deep)}
	case 1:
		return api.Node{K: api.NdTuple, L: g.list(few, g.expr, deep)}
	case 2:
		return api.Node{K: api.NdOp, S: g.pick("+", "rem", "=:="), L: g.list(2, g.expr, deep)}
	case 3, 4, 5:
		return api.Node{K: api.NdMatch, L: []api.Node{g.pattern(2), g.expr(deep)}}
	case 6:
		return api.Node{K: api.NdCall, S: g.pick("f", "g", "hd", "exit", "self"), L: g.list(few, g.expr, deep)}
	case 7:
		return api.Node{K: api.NdRemote, S: g.pick("m", "n"), T: g.pick("f", "g"), L: g.list(few, g.expr, deep)}
	case 8:
		return api.Node{K: api.NdApply, L: append([]api.Node{{K: api.NdVar, S: g.pick(g.names...)}}, g.list(few, g.expr, deep)...)}
	case 9:
		return api.Node{K: api.NdRef, S: g.pick("m", "n"), T: g.pick("f", "g"), N: few}
	case 10, 11:
		return api.Node{K: api.NdCase, L: append(g.list(1, g.expr, deep), g.list(1+few, g.one, deep)...)}
	case 12, 13:
		return api.Node{K: api.NdTry, L: append(g.list(1, g.expr, deep), g.list(1+few, g.caught, deep)...)}
	case 14:
		return api.Node{K: api.NdRecv, L: g.list(1+few, g.one, deep)}
	case 15:
		after := api.Node{K: api.NdAfter, L: g.list(2+g.Intn(2), g.expr, deep)}
		return api.Node{K: api.NdRecv, N: 1, L: append(g.list(few, g.one, deep), after)}
	}
	return g.leaf()
}

func (g *grower) function(name string, arity int) api.Node {
	n := api.Node{K: api.NdFun, S: name, N: arity}
	for range 1 + g.Intn(2) {
		n.L = append(n.L, g.clause(arity, g.Intn(4)))
	}
	return n
}

// mods are modules; their names, and those of functions, are seldom the same.
func (g *grower) mods() api.Node {
	n := api.Node{K: api.NdMods}
	for _, name := range []string{"m", "n", g.pick("m", "o", "p", "q")}[:1+g.Intn(3)] {
		m := api.Node{K: api.NdMod, S: name}
		for arity := range 3 {
			if g.Intn(3) > 0 {
				m.L = append(m.L, g.function(g.pick("f", "g"), arity))
			}
		}
		if g.Intn(12) == 0 {
			m.L = append(m.L, g.function(g.pick("f", "self", "hd", "exit"), g.Intn(3)))
		}
		n.L = append(n.L, m)
	}
	return n
}

// wantReading holds all calls against a plain reading, and tells what Check says.
func wantReading(t *testing.T, n api.Node) api.Errno {
	t.Helper()
	at, e := reading(n)
	wantTree(t, n, at, e)
	if e == api.ErrTree {
		return e
	}
	all := Functions(n)
	for _, m := range n.L {
		for _, f := range m.L {
			if len(all) == 0 || all[0] != (api.Fn{S: m.S, T: f.S, N: f.N}) {
				t.Errorf("%q: Functions: %v, not %s:%s", ast.Text(n), all, m.S, f.S)
				return e
			}
			all = all[1:]
			wantClauses(t, f)
			if got, ok := Find(n, m.S, f.S, f.N); !ok || e != api.ErrTwice && !ast.Same(got, f) {
				t.Errorf("%q: Find %s:%s/%d", ast.Text(n), m.S, f.S, f.N)
			}
		}
	}
	if len(all) > 0 {
		t.Errorf("%q: Functions: %v more", ast.Text(n), all)
	}
	return e
}

func wantClauses(t *testing.T, f api.Node) {
	t.Helper()
	for _, c := range f.L {
		m := &model{arity: c.N}
		m.clause(c, 0, set{})
		if l := Names(c); !slices.Equal(l, m.first) {
			t.Errorf("Names: %v, not %v", l, m.first)
		}
	}
}

// P9.1, P9.2: random trees against a plain reading of the chapter.
func TestRandom(t *testing.T) {
	seen := map[api.Errno]int{}
	for seed, many := range map[int64]int{1: 1, 2: 2, 3: 4, 4: 60} {
		g := newGrower(seed, many)
		for range 1500 {
			seen[wantReading(t, g.mods())]++
		}
	}
	for _, e := range []api.Errno{api.OK, api.ErrTwice, api.ErrBind, api.ErrCall} {
		if seen[e] < 100 {
			t.Error("too few trees:", e, seen)
		}
	}
}

// bound binds all names that a tree tells and does not bind, by a function's first argument, so that no name is left unbound.
func bound(n api.Node) api.Node {
	n = clone(n)
	for i := range n.L {
		for j := range n.L[i].L {
			for k := range n.L[i].L[j].L {
				c := &n.L[i].L[j].L[k]
				l := []api.Node{}
				for _, s := range ast.Vars(*c) {
					l = append(l, api.Node{K: api.NdVar, S: s})
				}
				c.L = slices.Insert(c.L, c.N, api.Node{K: api.NdTuple, L: l})
				c.N++
			}
			n.L[i].L[j].N++
		}
	}
	return n
}

// P9.1: the same with trees of which all names are bound, in some of them more at once than may be.
func TestRandomBound(t *testing.T) {
	seen := map[api.Errno]int{}
	for seed, many := range map[int64]int{5: 2, 6: 20, 7: 40, 8: 400} {
		g := newGrower(seed, many)
		for range 1000 {
			g.calls = g.Intn(4) == 0
			seen[wantReading(t, bound(g.mods()))]++
		}
	}
	for _, e := range []api.Errno{api.OK, api.ErrTwice, api.ErrBind, api.ErrCall, api.ErrLimit} {
		if seen[e] < 50 {
			t.Error("too few trees:", e, seen)
		}
	}
}

// P9.3: trees that are let be, with one more function that is, of a new name.
func TestRandomMore(t *testing.T) {
	g := newGrower(9, 2)
	g.calls = false
	tried := 0
	for range 2000 {
		n, more := bound(g.mods()), bound(g.mods())
		if e := wantReading(t, n); e != api.OK || len(n.L) == 0 || len(more.L[0].L) == 0 {
			continue
		}
		f := clone(more.L[0].L[0])
		f.S = "new"
		i := g.Intn(len(n.L))
		if _, e := Check(api.Node{K: api.NdMods, L: []api.Node{{K: api.NdMod, S: n.L[i].S, L: []api.Node{f}}}}); e != api.OK {
			continue
		}
		tried++
		n = clone(n)
		n.L[i].L = append(n.L[i].L, f)
		wantTree(t, n, 0, api.OK)
	}
	if tried < 100 {
		t.Error("too few trees:", tried)
	}
}
