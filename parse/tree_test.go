package parse

import (
	"math/rand"
	"strings"
	"testing"

	"pleach/api"
	"pleach/ast"
)

// maker makes random trees that may be.
type maker struct{ *rand.Rand }

func pick[T any](m maker, l ...T) T { return l[m.Intn(len(l))] }

func (m maker) atom() string {
	return pick(m, "a", "b", "f", "go_1", "aZ9", "error", "exit", "is_atom", "self", "ends", "receives", strings.Repeat("q", 32))
}

func (m maker) name() string {
	return pick(m, "_", "X", "Y", "Zx_1", "_a", "End", strings.Repeat("Q", 32))
}

func (m maker) some(least, most int, part func() api.Node) []api.Node {
	var l []api.Node
	for range least + m.Intn(most-least+1) {
		l = append(l, part())
	}
	return l
}

func (m maker) mods() api.Node {
	return mods(m.some(0, 3, func() api.Node { return mod(m.atom(), m.some(0, 3, m.function)...) })...)
}

func (m maker) function() api.Node {
	many := m.Intn(api.MaxArity + 1)
	return fn(m.atom(), many, m.some(1, 3, func() api.Node {
		return m.clause(4, m.some(many, many, func() api.Node { return m.pattern(2) })...)
	})...)
}

// clause is one of those patterns.
func (m maker) clause(deep int, patterns ...api.Node) api.Node {
	c := clause(len(patterns), patterns...)
	c.L = append(c.L, grd(m.some(0, m.Intn(3), m.test)...))
	c.L = append(c.L, m.body(deep)...)
	return c
}

func (m maker) body(deep int) []api.Node {
	return m.some(1, 2, func() api.Node { return m.expr(deep) })
}

func (m maker) leaf() api.Node {
	return pick(m, v(m.name()), v(m.name()), at(m.atom()), null, tuple(), num(pick(m, 0, 1, -1, -345, api.MaxInt, -api.MaxInt, -api.MaxInt-1)))
}

// value is what patterns, guard expressions and expressions have in common, of such parts.
func (m maker) value(deep int, part func(deep int) api.Node) api.Node {
	if deep <= 0 || m.Intn(3) == 0 {
		return m.leaf()
	}
	one := func() api.Node { return part(deep - 1) }
	if m.Intn(2) == 0 {
		return cons(one(), one())
	}
	return tuple(m.some(0, 3, one)...)
}

func (m maker) pattern(deep int) api.Node { return m.value(deep, m.pattern) }

func (m maker) guarded(deep int) api.Node {
	if deep > 0 && m.Intn(3) == 0 {
		return op(pick(m, "+", "-", "*"), m.guarded(deep-1), m.guarded(deep-1))
	}
	return m.value(deep, m.guarded)
}

func (m maker) test() api.Node {
	if m.Intn(2) == 0 {
		return asked(pick(m, "is_atom", "is_integer", "is_pid", "is_reference", "is_tuple", "is_list", "is_function"), m.guarded(2))
	}
	return op(pick(m, "=:=", "=/=", "<", "=<", ">", ">="), m.guarded(2), m.guarded(2))
}

func (m maker) expr(deep int) api.Node {
	if deep <= 0 {
		return m.leaf()
	}
	one := func() api.Node { return m.expr(deep - 1) }
	args := func() []api.Node { return m.some(0, pick(m, 0, 1, 2, api.MaxArity), one) }
	alternative := func() api.Node { return m.clause(deep-1, m.pattern(2)) }
	catch := func() api.Node {
		return m.clause(deep-1, pick(m, v(m.name()), at("error"), at("exit"), at("throw")), m.pattern(2))
	}
	switch m.Intn(12) {
	case 0:
		return op(pick(m, "+", "-", "*", "div", "rem", "=:=", "=/=", "<", "=<", ">", ">="), one(), one())
	case 1:
		return match(m.pattern(2), one())
	case 2:
		return call(m.atom(), args()...)
	case 3:
		return remote(m.atom(), m.atom(), args()...)
	case 4:
		return apply(append([]api.Node{v(m.name())}, args()...)...)
	case 5:
		return ref(m.atom(), m.atom(), m.Intn(api.MaxArity+1))
	case 6:
		return choice(append([]api.Node{one()}, m.some(1, 3, alternative)...)...)
	case 7:
		return try(append([]api.Node{one()}, m.some(1, 3, catch)...)...)
	case 8:
		return recv(0, m.some(1, 3, alternative)...)
	case 9:
		return recv(1, append(m.some(0, 2, alternative), after(append([]api.Node{one()}, m.body(deep-1)...)...))...)
	}
	return m.value(deep, m.expr)
}

// P8.3: Mods of the text of a tree that may be is the tree; where the text is too long, that is told.
func TestTrees(t *testing.T) {
	m := maker{rand.New(rand.NewSource(83))}
	kinds := map[int8]int{}
	for range 1200 {
		n := m.mods()
		s := ast.Text(n)
		if ast.Check(n) != api.OK {
			continue
		}
		if len(s) > api.MaxText {
			modsFault(t, s, api.ErrLong, 0)
			continue
		}
		got, f := Mods(s)
		want(t, s, got, f, n)
		got, config, f := Text(s + "config")
		if len(s)+len("config") > api.MaxText {
			continue
		}
		want(t, s, got, f, n)
		if config != len(s)+len("config") {
			t.Error(config, len(s))
		}
		count(n, kinds)
	}
	for k := api.NdMods; k <= api.NdAfter; k++ {
		if kinds[k] < 100 {
			t.Error("too few nodes of kind", k)
		}
	}
}

func count(n api.Node, kinds map[int8]int) {
	kinds[n.K]++
	for _, p := range n.L {
		count(p, kinds)
	}
}

// P8.1, P8.3: expressions and patterns by themselves.
func TestPartsOfTrees(t *testing.T) {
	m := maker{rand.New(rand.NewSource(38))}
	for range 3000 {
		e, p := m.expr(3), m.pattern(4)
		s := strings.TrimSuffix(strings.TrimPrefix(ast.Text(mods(mod("m", one(e)))), "module m.\nf() -> "), ".\n")
		n, f := Expr(s)
		want(t, s, n, f, e)
		s = strings.TrimSuffix(strings.TrimPrefix(ast.Text(mods(mod("m", one(p)))), "module m.\nf() -> "), ".\n")
		n, f = Pattern(s)
		want(t, s, n, f, p)
		n, f = Expr(s)
		want(t, s, n, f, p)
	}
}

// R4: an answer shares no memory with another one, and no list of it with another list.
func TestShared(t *testing.T) {
	s := "module m. f(X) -> {X, {1, 2}, g(3)}; f({Y}) -> case Y of _ -> receive after 1 -> X(2, 3) end end."
	a, _ := Mods(s)
	b, _ := Mods(s)
	spoil(a)
	wantMods(t, s, b)
}

// spoil fills all room of all lists, that behind their ends included.
func spoil(n api.Node) {
	for i := range n.L {
		spoil(n.L[i])
	}
	l := n.L[:cap(n.L)]
	for i := range l {
		l[i] = num(99)
	}
}

// R4: nor do the lists of one answer share any room behind their ends.
func TestRoom(t *testing.T) {
	s := "module m. f(X) -> {X, {1, 2}, g(3)}; f({Y}) -> case Y of _ -> receive after 1 -> X(2, 3) end end."
	n, _ := Mods(s)
	fill(n)
	wantMods(t, s, n)
}

// fill fills the room behind the ends of all lists.
func fill(n api.Node) {
	l := n.L[len(n.L):cap(n.L)]
	for i := range l {
		l[i] = num(99)
	}
	for _, p := range n.L {
		fill(p)
	}
}
