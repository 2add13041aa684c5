package match

import (
	"math"
	"slices"
	"strings"
	"testing"

	"pleach/api"
	"pleach/parse"
)

// others are nodes of trees that may be, one of each kind that no pattern has, and of each operation.
func others(t *testing.T) []api.Node {
	t.Helper()
	n, f := parse.Mods("module m. f(X) when is_atom(X), (X < 1) -> (X = X), (X + 1), (X =:= 1), f(X), m:f(X), X(1), fun m:f/1, case X of _ -> 1 end, try X catch _:_ -> 1 end, receive _ -> 1 after 1 -> 2 end.")
	if f.E != api.OK {
		t.Fatal(f)
	}
	var l []api.Node
	seen := map[int8]bool{}
	var walk func(n api.Node)
	walk = func(n api.Node) {
		if n.K < api.NdVar || n.K > api.NdTuple {
			l = append(l, n)
			seen[n.K] = true
		}
		for _, p := range n.L {
			walk(p)
		}
	}
	walk(n)
	if len(seen) != int(api.NdAfter)+1-6 {
		t.Fatal(seen)
	}
	return l
}

// noNodes are nodes that no tree has where a pattern stands.
func noNodes() []api.Node {
	one := []api.Node{{K: api.NdNil}}
	two := []api.Node{one[0], one[0]}
	l := []api.Node{
		{K: api.NdVar}, {K: api.NdVar, S: "x"}, {K: api.NdVar, S: "1"}, {K: api.NdVar, S: "X-"}, {K: api.NdVar, S: "A" + strings.Repeat("a", 32)}, {K: api.NdVar, S: "X", N: 1}, {K: api.NdVar, S: "X", T: "a"}, {K: api.NdVar, S: "X", L: one},
		{K: api.NdInt, N: api.MaxInt + 1}, {K: api.NdInt, N: -api.MaxInt - 2}, {K: api.NdInt, N: math.MinInt}, {K: api.NdInt, S: "a"}, {K: api.NdInt, T: "a"}, {K: api.NdInt, L: one},
		{K: api.NdAtom}, {K: api.NdAtom, S: "A"}, {K: api.NdAtom, S: "when"}, {K: api.NdAtom, S: "end"}, {K: api.NdAtom, S: "div"}, {K: api.NdAtom, S: strings.Repeat("a", 33)}, {K: api.NdAtom, S: "a", N: 1}, {K: api.NdAtom, S: "a", T: "a"}, {K: api.NdAtom, S: "a", L: one},
		{K: api.NdNil, N: 1}, {K: api.NdNil, S: "a"}, {K: api.NdNil, T: "a"}, {K: api.NdNil, L: one},
		{K: api.NdCons}, {K: api.NdCons, L: one}, {K: api.NdCons, L: append(two, one...)}, {K: api.NdCons, N: 1, L: two}, {K: api.NdCons, S: "a", L: two}, {K: api.NdCons, T: "a", L: two},
		{K: api.NdTuple, N: 1}, {K: api.NdTuple, S: "a"}, {K: api.NdTuple, T: "a", L: two},
	}
	for k := api.NdMods; k <= api.NdAfter; k++ {
		if k < api.NdVar || k > api.NdTuple {
			l = append(l, api.Node{K: k}, api.Node{K: k, L: two}, api.Node{K: k, S: "a", L: one})
		}
	}
	for _, k := range []int8{-1, math.MinInt8, api.NdAfter + 1, math.MaxInt8} {
		l = append(l, api.Node{K: k}, api.Node{K: k, S: "X"}, api.Node{K: k, L: two})
	}
	return l
}

// deepPattern is one of so many nodes in one another.
func deepPattern(deep int) api.Node {
	p := variable("X")
	for range deep - 1 {
		p = api.Node{K: api.NdTuple, L: []api.Node{p}}
	}
	return p
}

// widePattern is a tuple pattern of so many nodes.
func widePattern(n int) api.Node {
	return api.Node{K: api.NdTuple, L: slices.Repeat([]api.Node{variable("_")}, n-1)}
}

// wide is a tuple of so many nodes.
func wide(n int) api.Term { return api.Term{K: api.KTuple, L: make([]api.Term, n-1)} }

// nested is a term of so many nodes in one another.
func nested(n int) api.Term {
	x := num(1)
	for range n - 1 {
		x = api.Term{K: api.KTuple, L: []api.Term{x}}
	}
	return x
}

// roundPattern and round are tuples that hold themselves.
func roundPattern() api.Node {
	l := make([]api.Node, 1)
	l[0] = api.Node{K: api.NdTuple, L: l}
	return l[0]
}

func round() api.Term {
	l := make([]api.Term, 1)
	l[0] = api.Term{K: api.KTuple, L: l}
	return l[0]
}

// noPatterns are trees that may be no patterns.
func noPatterns(t *testing.T) []api.Node {
	t.Helper()
	l := append(others(t), noNodes()...)
	for _, n := range slices.Clone(l) {
		l = append(l, api.Node{K: api.NdTuple, L: []api.Node{n}}, api.Node{K: api.NdTuple, L: []api.Node{variable("X"), {K: api.NdTuple, L: []api.Node{{K: api.NdNil}, n}}}}, api.Node{K: api.NdCons, L: []api.Node{n, variable("X")}}, api.Node{K: api.NdCons, L: []api.Node{variable("X"), n}})
	}
	return append(l, deepPattern(api.MaxDepth+1), deepPattern(1000), widePattern(api.MaxNodes+1), widePattern(1<<16), roundPattern())
}

// noTerms are terms that may not be.
func noTerms() []api.Term {
	one, two, three := []api.Term{num(1)}, []api.Term{num(1), num(2)}, []api.Term{num(1), num(2), num(3)}
	l := []api.Term{
		num(api.MaxInt + 1), num(-api.MaxInt - 2), num(math.MinInt), {S: "a"}, {T: "a"}, {L: one},
		{K: api.KAtom}, {K: api.KAtom, S: "A"}, {K: api.KAtom, S: "_"}, {K: api.KAtom, S: "a-"}, {K: api.KAtom, S: strings.Repeat("a", 33)}, {K: api.KAtom, S: "a", N: 1},
		{K: api.KRef, N: -1}, {K: api.KRef, N: api.MaxInt + 1}, {K: api.KPid, N: -1}, {K: api.KPid, N: api.MaxInt + 1},
		{K: api.KFun, S: "a"}, {K: api.KFun, S: "a", T: "b", N: -1}, {K: api.KFun, S: "a", T: "b", N: api.MaxArity + 1},
		{K: api.KTuple, N: 1}, {K: api.KTuple, S: "a"}, {K: api.KNil, L: one}, {K: api.KNil, T: "a"}, {K: api.KCons}, {K: api.KCons, L: one}, {K: api.KCons, L: three},
		{K: -1}, {K: math.MinInt8}, {K: api.KCons + 1}, {K: math.MaxInt8, L: two},
	}
	for _, x := range slices.Clone(l) {
		l = append(l, api.Term{K: api.KTuple, L: []api.Term{num(1), x}}, api.Term{K: api.KCons, L: []api.Term{x, num(1)}}, api.Term{K: api.KCons, L: []api.Term{num(1), x}})
	}
	return append(l, wide(api.MaxTerm+1), wide(1<<16), nested(api.MaxTerm+1), nested(1<<12), round())
}

// noNames are names that may not be, each in a bind.
func noNames() []api.Bind {
	var l []api.Bind
	for _, s := range []string{"", "_", "x", "a", "1", "-", "X-", "X ", " X", "É", "Xé", "X\x00", "A" + strings.Repeat("a", 32)} {
		l = append(l, api.Bind{S: s, T: num(1)})
	}
	for _, x := range noTerms() {
		l = append(l, api.Bind{S: "Q", T: x})
	}
	return l
}

// wantRefused holds that both calls refuse; such things may hold themselves, so none is told or copied.
func wantRefused(t *testing.T, g given) {
	t.Helper()
	for _, call := range g.calls() {
		if out, ok, e := call(); len(out) != 0 || ok || e != api.ErrArg {
			t.Errorf("%d names, %v, %v", len(out), ok, e)
		}
	}
}

// P10.1, P10.2: wrong inputs, wherever they stand, whether all else would match or not.
func TestWrong(t *testing.T) {
	good := given{rows(t, "{A, B, X};Y;_", pat), rows(t, "{1,2,3};4;5", read), rows(t, "A=1;B=2", bind)}
	bad := given{rows(t, "a;Y;_", pat), rows(t, "{1,2,3};4;5", read), rows(t, "A=1;B=2;A=3", bind)}
	good.want(t, rows(t, "A=1;B=2;X=3;Y=4", bind), true, api.OK)
	bad.want(t, bad.l, false, api.OK)
	for _, g := range []given{good, bad} {
		for i := range g.p {
			for _, p := range noPatterns(t) {
				wantRefused(t, given{with(g.p, i, p), g.t, g.l})
				wantRefused(t, given{[]api.Node{p}, g.t[i : i+1], g.l})
				wantRefused(t, given{[]api.Node{p}, g.t[i : i+1], nil})
			}
			for _, x := range noTerms() {
				wantRefused(t, given{g.p, with(g.t, i, x), g.l})
				wantRefused(t, given{g.p[i : i+1], []api.Term{x}, g.l})
				wantRefused(t, given{rows(t, "_", pat), []api.Term{x}, nil})
			}
		}
		for i := range len(g.l) + 1 {
			for _, b := range noNames() {
				l := slices.Insert(slices.Clone(g.l), i, b)
				wantRefused(t, given{g.p, g.t, l})
				wantRefused(t, given{g.p[2:], g.t[2:], l})
				wantRefused(t, given{nil, nil, l})
			}
		}
	}
}

// with is a row with another thing at a place.
func with[T any](l []T, at int, x T) []T {
	l = slices.Clone(l)
	l[at] = x
	return l
}

// P10.1: May.
func TestMay(t *testing.T) {
	for _, l := range [][]api.Bind{nil, {}, {{S: "X"}}, {{S: "_X"}}, {{S: "__"}}, {{S: "X", T: wide(api.MaxTerm)}}, {{S: "X", T: nested(api.MaxTerm)}}, {{S: "A" + strings.Repeat("a", 31)}}, {{S: "X"}, {S: "X"}}, many(64)} {
		if !May(l) {
			t.Error(show(l))
		}
	}
	for _, s := range some {
		if !May([]api.Bind{{S: "X", T: read(t, s)}}) {
			t.Error(s)
		}
	}
	for i, b := range noNames() {
		for _, l := range [][]api.Bind{{b}, {{S: "X"}, b}, {b, {S: "X"}}, {{S: "Q"}, b, {S: "Q"}}, append(many(63), b)} {
			if May(l) {
				t.Error(i, len(l))
			}
		}
	}
	l := room(many(3), roomyBind, api.Bind{S: "behind"})
	if !May(l) || l[:5][4].S != "behind" {
		t.Error("what stands behind the names is none of them")
	}
}

// P10.1: patterns and terms as great as they may be.
func TestEdges(t *testing.T) {
	x := []api.Bind{{S: "X", T: num(1)}}
	given{[]api.Node{deepPattern(api.MaxDepth)}, []api.Term{nested(api.MaxDepth)}, nil}.want(t, x, true, api.OK)
	given{[]api.Node{deepPattern(api.MaxDepth)}, []api.Term{nested(api.MaxDepth - 1)}, nil}.want(t, nil, false, api.OK)
	given{[]api.Node{deepPattern(api.MaxDepth)}, []api.Term{nested(api.MaxTerm)}, nil}.want(t, []api.Bind{{S: "X", T: nested(api.MaxTerm - api.MaxDepth + 1)}}, true, api.OK)
	given{[]api.Node{widePattern(api.MaxNodes)}, []api.Term{wide(api.MaxTerm)}, x}.want(t, x, false, api.OK)
	given{[]api.Node{widePattern(api.MaxTerm)}, []api.Term{wide(api.MaxTerm)}, x}.want(t, x, true, api.OK)
	given{[]api.Node{variable("Y"), variable("Y")}, []api.Term{wide(api.MaxTerm), wide(api.MaxTerm)}, nil}.want(t, []api.Bind{{S: "Y", T: wide(api.MaxTerm)}}, true, api.OK)
	given{[]api.Node{variable("Y"), variable("Y")}, []api.Term{wide(api.MaxTerm), wide(api.MaxTerm - 1)}, x}.want(t, x, false, api.OK)
}
