package compile

import (
	"math"
	"slices"
	"testing"

	"pleach/api"
	"pleach/ast"
	"pleach/rules"
)

// refused are trees that the rules refuse, by each rule.
var refused = []string{
	"module m. module m.", "module m. f() -> 1. module n. module m.",
	"module m. f() -> 1. f() -> 2.", "module m. f(_) -> 1. f() -> 1. f(X) -> X.",
	"module m. f() -> X.", "module m. f() -> _.", "module m. f(X) when (X > Y) -> X.", "module m. f() -> case 1 of X -> X end, X.", "module m. f() -> try (X = 1) catch _:_ -> X end.", "module m. f() -> receive X -> X after (Y = 1) -> Y end, Y.", "module m. f() -> receive X -> Y after (Y = 1) -> Y end.",
	"module m. f() -> g().", "module m. f() -> f(1).", "module m. f() -> n:f(). module n.", "module m. f() -> fun m:g/0.", "module m. f() -> n:f(1). module n. f() -> 1.", "module m. hd(X) -> X.", "module m. self() -> 1.", "module m. f() -> m:hd(1).",
	"module m. f({" + list("V$", ", ", 0, 32) + "}) -> 1.", "module m. f() -> ({" + list("V$", ", ", 0, 33) + "} = 1).",
	// What is above the compiler's limits is refused by the rules first.
	"module m. f() -> g(), {" + times("a", 300) + "}.", "module m. f() -> X, " + times("(_ = 1)", 33) + ".", of(api.MaxCode+1) + " f() -> X.",
}

// wantNone holds that there is nothing of a tree.
func wantNone(t *testing.T, n api.Node) {
	t.Helper()
	wantAnswer(t, n, api.ErrArg)
	for at, e := range Walk(n) {
		t.Errorf("the function %d has %d", at, e.K)
	}
}

// P14.1, P14.2: trees that the rules refuse.
func TestRefused(t *testing.T) {
	seen := map[api.Errno]bool{}
	for _, s := range refused {
		n := mods(t, s)
		_, e := rules.Check(n)
		seen[e] = true
		wantNone(t, n)
	}
	if len(seen) != 4 {
		t.Error(seen)
	}
}

// change changes each node of a tree in turn, and calls what holds the whole tree then.
func change(n *api.Node, how func(*api.Node), hold func()) {
	was := *n
	how(n)
	hold()
	*n = was
	for i := range n.L {
		change(&n.L[i], how, hold)
	}
}

// P14.1, P14.2: trees that nothing makes.
func TestWrongTrees(t *testing.T) {
	for _, n := range []api.Node{
		{K: api.NdMod}, {K: api.NdMod, S: "m"}, {K: api.NdFun, S: "f"}, {K: api.NdClause}, {K: api.NdAtom, S: "a"}, {K: -1}, {K: 127}, {K: -128}, {K: api.NdAfter + 1},
		{N: 1}, {N: -1}, {N: math.MaxInt}, {S: "m"}, {T: "m"}, {L: []api.Node{{}}}, {L: []api.Node{{K: api.NdMod}}}, {L: []api.Node{{K: api.NdMod, S: "M"}}}, {L: []api.Node{{K: api.NdMod, S: "m", N: 1}}},
		{L: []api.Node{{K: api.NdMod, S: "m", L: []api.Node{{}}}}}, {L: []api.Node{{K: api.NdMod, S: "m", L: []api.Node{{K: api.NdFun, S: "f"}}}}}, {L: []api.Node{{K: api.NdMod, S: "m", L: []api.Node{{K: api.NdFun, S: "f", L: []api.Node{{K: api.NdClause}}}}}}},
	} {
		wantNone(t, n)
	}
	for _, n := range []api.Node{{}, {L: []api.Node{}}, {L: []api.Node{{K: api.NdMod, S: "m"}}}, {L: []api.Node{{K: api.NdMod, S: "m", L: []api.Node{}}}}} {
		wantAnswer(t, n, api.OK)
		for at := range Walk(n) {
			t.Error(at)
		}
	}
}

const all = "module m. f(X, {Y, _}) when (X > 1), is_atom(Y) -> (Z = {X, [Y|[]]}), g(Z), m:g(1), X(Z), fun m:g/1; f(_, _) -> case hd(a) of 1 when (1 < 2) -> 2 end. g(_) -> try (1 + 2) catch C:R -> {C, R} end. module n. h() -> receive {M} -> M after 5 -> 6 end."

// P14.1, P14.2: each node of a tree wrong in turn: it is let be just if the rules let it be, and nothing goes wrong.
func TestWrongNodes(t *testing.T) {
	n := mods(t, all)
	seen := map[bool]int{}
	hold := func() {
		_, e := rules.Check(n)
		seen[e == api.OK]++
		if e != api.OK {
			wantNone(t, n)
		} else {
			wantRead(t, n)
		}
	}
	for k := range int8(30) {
		change(&n, func(n *api.Node) { n.K = k - 4 }, hold)
	}
	for _, number := range []int{math.MinInt, -1, 0, 1, 2, 8, 9, 1 << 32, api.MaxInt, api.MaxInt + 1, math.MaxInt} {
		change(&n, func(n *api.Node) { n.N = number }, hold)
	}
	for _, s := range []string{"", "a", "m", "f", "g", "X", "Y", "Z", "_", "+", "hd", "V0", "end", "\x00", "\xff"} {
		change(&n, func(n *api.Node) { n.S = s }, hold)
		change(&n, func(n *api.Node) { n.T = s }, hold)
	}
	for _, l := range [][]api.Node{nil, {}, {{}}, {{K: api.NdNil}}, {{K: api.NdNil}, {K: api.NdNil}}, {{K: api.NdNil}, {K: api.NdGuard}, {K: api.NdNil}}, make([]api.Node, 9)} {
		change(&n, func(n *api.Node) { n.L = l }, hold)
	}
	change(&n, func(n *api.Node) { *n = api.Node{} }, hold)
	change(&n, func(n *api.Node) { n.L = slices.Concat(n.L, n.L) }, hold)
	change(&n, func(n *api.Node) { n.L = n.L[:len(n.L)/2] }, hold)
	change(&n, func(n *api.Node) { slices.Reverse(n.L) }, hold)
	if seen[true] < 100 || seen[false] < 1000 {
		t.Error(seen)
	}
}

// P14.1, P14.2: trees that hold themselves, that share their parts, that are very deep, or wide.
func TestEndless(t *testing.T) {
	n := mods(t, all)
	n.L[0].L[0].L[0].L[3].L[1].L[0] = n
	self := make([]api.Node, 1)
	self[0] = api.Node{K: api.NdTuple, L: self}
	wide := api.Node{K: api.NdTuple, L: make([]api.Node, 1<<20)}
	deep := api.Node{K: api.NdNil}
	for range 1 << 20 {
		deep = api.Node{K: api.NdTuple, L: []api.Node{deep}}
	}
	shared := api.Node{K: api.NdNil}
	for range 60 {
		shared = api.Node{K: api.NdCons, L: []api.Node{shared, shared}}
	}
	for _, e := range []api.Node{self[0], wide, deep, shared, n} {
		tree := mods(t, "module m. f(X) -> 1.")
		tree.L[0].L[0].L[0].L[2] = e
		wantNone(t, tree)
		tree = mods(t, "module m. f(X) -> 1.")
		tree.L[0].L[0].L[0].L[0] = e
		wantNone(t, tree)
		wantNone(t, api.Node{L: []api.Node{e}})
		wantNone(t, e)
	}
	// A tree that shares its parts may be, if it is not too great.
	small := api.Node{K: api.NdNil}
	for range 6 {
		small = api.Node{K: api.NdCons, L: []api.Node{small, small}}
	}
	tree := mods(t, "module m. f() -> 1. g() -> 2.")
	tree.L[0].L[0].L[0].L[1], tree.L[0].L[1].L[0].L[1] = small, small
	if _, ok := wantRead(t, tree); !ok {
		t.Error("refused")
	}
}

// P14.1, P14.2: what is handed in is not changed, and what is answered is new.
func TestUntouched(t *testing.T) {
	n, same := mods(t, all), mods(t, all)
	spoil := func(l []api.Code) {
		for i, c := range l {
			for j := range c.L {
				for k := range c.L[j].L {
					c.L[j].L[k] = api.Node{K: -1}
				}
				c.L[j] = api.Node{K: -1}
			}
			for j := range c.P.L {
				c.P.L[j] = api.Node{K: -1}
			}
			l[i] = api.Code{Op: -1}
		}
	}
	want, _ := Compile(n)
	p, _ := Compile(n)
	l, _ := Function(n, "n", "h", 0)
	spoil(l)
	spoil(p.Ops)
	for i := range p.Fns {
		p.Fns[i] = api.Fn{}
	}
	for _, l := range p.Tab {
		clear(l)
	}
	clear(p.Tab)
	if !ast.Same(n, same) {
		t.Error("the tree is another one")
	}
	again, _ := Compile(n)
	first, second := lines(want), lines(again)
	if !slices.Equal(first, second) || functionsText(want) != functionsText(again) {
		t.Error(first, second)
	}
	places := Places(want)
	clear(places)
	if after := lines(want); !slices.Equal(first, after) || slices.Equal(Places(want), places) {
		t.Error(after)
	}
}
