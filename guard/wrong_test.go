package guard

import (
	"math"
	"slices"
	"strings"
	"testing"

	"pleach/api"
	"pleach/ast"
	"pleach/parse"
)

// nodes are all those of a tree that may be, of each kind and each operation.
func nodes(t *testing.T) []api.Node {
	t.Helper()
	text := "module m. f(X) when is_atom(X), (X < 1), (X =:= [{(X + 1)}|[]]) -> (X = a), (X + 1), (X - 1), (X * 1), (X div 1), (X rem 1), f(X), m:f(X), X(1), fun m:f/1, {f(X), (X rem 1)}, [(X < 1)|[]], (f(X) + 1), (f(X) < 1), case X of _ when is_pid(X) -> 1 end, try X catch _:_ -> 1 end, receive _ -> 1 after 1 -> 2 end"
	for _, s := range comparisons {
		text += ", (X " + s + " 1)"
	}
	n, f := parse.Mods(text + ".")
	if f.E != api.OK {
		t.Fatal(f)
	}
	l := parts(n)
	seen := map[int8]bool{}
	for _, n := range l {
		seen[n.K] = true
	}
	if len(seen) != int(api.NdAfter)+1 {
		t.Fatal(seen)
	}
	return l
}

// parts are a tree's nodes.
func parts(n api.Node) []api.Node {
	l := []api.Node{n}
	for _, p := range n.L {
		l = append(l, parts(p)...)
	}
	return l
}

// noNodes are nodes that stand nowhere in a guard.
func noNodes() []api.Node {
	one := []api.Node{{K: api.NdNil}}
	two := []api.Node{one[0], one[0]}
	l := []api.Node{
		{K: api.NdVar}, {K: api.NdVar, S: "x"}, {K: api.NdVar, S: "1"}, {K: api.NdVar, S: "X-"}, {K: api.NdVar, S: "A" + strings.Repeat("a", 32)}, {K: api.NdVar, S: "X", N: 1}, {K: api.NdVar, S: "X", T: "a"}, {K: api.NdVar, S: "X", L: one},
		{K: api.NdInt, N: api.MaxInt + 1}, {K: api.NdInt, N: -api.MaxInt - 2}, {K: api.NdInt, N: math.MinInt}, {K: api.NdInt, S: "a"}, {K: api.NdInt, T: "a"}, {K: api.NdInt, L: one},
		{K: api.NdAtom}, {K: api.NdAtom, S: "A"}, {K: api.NdAtom, S: "when"}, {K: api.NdAtom, S: "div"}, {K: api.NdAtom, S: strings.Repeat("a", 33)}, {K: api.NdAtom, S: "a", N: 1}, {K: api.NdAtom, S: "a", T: "a"}, {K: api.NdAtom, S: "a", L: one},
		{K: api.NdNil, N: 1}, {K: api.NdNil, S: "a"}, {K: api.NdNil, T: "a"}, {K: api.NdNil, L: one},
		{K: api.NdCons}, {K: api.NdCons, L: one}, {K: api.NdCons, L: append(two, one...)}, {K: api.NdCons, N: 1, L: two}, {K: api.NdCons, S: "a", L: two}, {K: api.NdCons, T: "a", L: two},
		{K: api.NdTuple, N: 1}, {K: api.NdTuple, S: "a"}, {K: api.NdTuple, T: "a", L: two},
	}
	for _, s := range append([]string{"+", "-", "*"}, comparisons...) {
		l = append(l, api.Node{K: api.NdOp, S: s}, api.Node{K: api.NdOp, S: s, L: one}, api.Node{K: api.NdOp, S: s, L: append(two, one...)}, api.Node{K: api.NdOp, S: s, N: 1, L: two}, api.Node{K: api.NdOp, S: s, T: "a", L: two})
	}
	for _, s := range []string{"", "/", "==", "/=", "<=", "=>", "=", "div", "rem", "++", "is_atom", "and"} {
		l = append(l, api.Node{K: api.NdOp, S: s, L: two})
	}
	for _, s := range kindWords {
		l = append(l, api.Node{K: api.NdTest, S: s}, api.Node{K: api.NdTest, S: s, L: two}, api.Node{K: api.NdTest, S: s, N: 1, L: one}, api.Node{K: api.NdTest, S: s, T: "a", L: one})
	}
	for _, s := range []string{"", "is_float", "is_binary", "is_map", "is_number", "is_boolean", "atom", "is_", "IS_ATOM", "is_atoms", "<"} {
		l = append(l, api.Node{K: api.NdTest, S: s, L: one})
	}
	for k := api.NdMods; k <= api.NdAfter; k++ {
		if k < api.NdGuard || k > api.NdTest {
			l = append(l, api.Node{K: k}, api.Node{K: k, L: two}, api.Node{K: k, S: "a", L: one})
		}
	}
	for _, k := range []int8{-1, math.MinInt8, api.NdAfter + 1, math.MaxInt8} {
		l = append(l, api.Node{K: k}, api.Node{K: k, S: "X"}, api.Node{K: k, S: "is_list", L: one}, api.Node{K: k, S: "=:=", L: two})
	}
	return append(l, api.Node{K: api.NdGuard, N: 1}, api.Node{K: api.NdGuard, S: "a"}, api.Node{K: api.NdGuard, T: "a"}, api.Node{K: api.NdGuard, L: one})
}

// deepNode is a guard expression of so many nodes in one another.
func deepNode(deep int) api.Node {
	n := number(1)
	for range deep - 1 {
		n = tuple(n)
	}
	return n
}

// wideNode is a guard expression of so many nodes.
func wideNode(n int) api.Node { return tuple(slices.Repeat([]api.Node{number(1)}, n-1)...) }

// roundNode and round are tuples that hold themselves.
func roundNode() api.Node {
	l := make([]api.Node, 1)
	l[0] = tuple(l...)
	return l[0]
}

func round() api.Term {
	l := make([]api.Term, 1)
	l[0] = api.Term{K: api.KTuple, L: l}
	return l[0]
}

// noTerms are terms that may not be.
func noTerms() []api.Term {
	one, two, three := []api.Term{num(1)}, []api.Term{num(1), num(2)}, []api.Term{num(1), num(2), num(3)}
	l := []api.Term{
		num(api.MaxInt + 1), num(-api.MaxInt - 2), num(math.MinInt), {S: "a"}, {T: "a"}, {L: one},
		{K: api.KAtom}, {K: api.KAtom, S: "A"}, {K: api.KAtom, S: "_"}, {K: api.KAtom, S: "a-"}, {K: api.KAtom, S: strings.Repeat("a", 33)}, {K: api.KAtom, S: "a", N: 1},
		{K: api.KRef, N: -1}, {K: api.KRef, N: api.MaxInt + 1}, {K: api.KPid, N: -1}, {K: api.KPid, N: api.MaxInt + 1},
		{K: api.KFun, S: "a"}, {K: api.KFun, S: "a", T: "b", N: -1}, {K: api.KFun, S: "a", T: "b", N: api.MaxArity + 1},
		{K: api.KTuple, N: 1}, {K: api.KTuple, S: "a"}, {K: api.KNil, L: one}, {K: api.KNil, T: "a"}, {K: api.KCons}, {K: api.KCons, L: one}, {K: api.KCons, L: three},
		{K: -1}, {K: math.MinInt8}, {K: api.KCons + 1}, {K: math.MaxInt8, L: two},
	}
	for _, x := range slices.Clone(l) {
		l = append(l, api.Term{K: api.KTuple, L: []api.Term{num(1), x}}, api.Term{K: api.KCons, L: []api.Term{x, num(1)}}, api.Term{K: api.KCons, L: []api.Term{num(1), x}})
	}
	return append(l, wide(api.MaxTerm+1), wide(1<<16), nested(api.MaxTerm+1), nested(1<<12), round())
}

// wantArg holds that a tree is no guard expression; such trees may hold themselves, so none is told or copied.
func wantArg(t *testing.T, n api.Node, l []api.Bind) {
	t.Helper()
	if x, e := Value(n, l); e != api.ErrArg || !sameTerm(x, api.Term{}) {
		t.Errorf("kind %d %q: kind %d, %v", n.K, n.S, x.K, e)
	}
}

// wantNoTest holds that a tree is no test, by itself or beside others.
func wantNoTest(t *testing.T, n api.Node, l []api.Bind) {
	t.Helper()
	yes := is("is_list", api.Node{K: api.NdNil})
	for i, got := range []bool{Test(n, l), Holds(guard(n), l), Holds(guard(yes, n), l), Holds(guard(n, yes), l)} {
		if got {
			t.Errorf("kind %d %q: %d", n.K, n.S, i)
		}
	}
}

// lists are names under which all else would have a value.
func lists(t *testing.T) [][]api.Bind {
	t.Helper()
	return [][]api.Bind{nil, {}, binds(t, "X=1;_=1;x=1"), binds(t, "X=a;A=1;X=2")}
}

// P11.1, P11.2: nodes of all kinds where they may not stand.
func TestWrongKinds(t *testing.T) {
	many := map[string]int{}
	for _, l := range lists(t) {
		for _, n := range nodes(t) {
			if n.K != api.NdGuard {
				many["no guard"]++
				if Holds(n, l) {
					t.Error(n, "no guard")
				}
			}
			if !ast.Test(n) {
				many["no test"]++
				wantNoTest(t, n, l)
			}
			if !ast.Guarded(n) {
				many["no expression"]++
				wantInNone(t, n, l)
			} else if _, e := Value(n, l); e == api.ErrArg {
				t.Error(n, "a guard expression")
			}
		}
	}
	for s, n := range many {
		if n < 100 {
			t.Error(s, n)
		}
	}
}

// wantInNone holds that what is no guard expression is none in others, and in no test.
func wantInNone(t *testing.T, n api.Node, l []api.Bind) {
	t.Helper()
	nothing := api.Node{K: api.NdNil}
	for _, in := range []api.Node{n, tuple(n), tuple(nothing, tuple(nothing, n)), {K: api.NdCons, L: []api.Node{n, nothing}}, {K: api.NdCons, L: []api.Node{nothing, n}}, op("+", n, number(1)), op("-", number(1), n), op("*", op("+", n, n), number(0))} {
		wantArg(t, in, l)
		for _, w := range kindWords {
			wantNoTest(t, is(w, in), l)
		}
		for _, c := range comparisons {
			wantNoTest(t, op(c, in, nothing), l)
			wantNoTest(t, op(c, nothing, in), l)
			wantNoTest(t, op(c, in, in), l)
		}
	}
}

// P11.1, P11.2: nodes that may stand nowhere.
func TestWrongNodes(t *testing.T) {
	for _, l := range lists(t) {
		for _, n := range noNodes() {
			wantInNone(t, n, l)
			wantNoTest(t, n, l)
			if Holds(n, l) {
				t.Error(n)
			}
		}
	}
}

// P11.1: ErrArg goes ahead of what has no value, and of what has none because of it.
func TestArgFirst(t *testing.T) {
	for _, n := range []api.Node{tuple(variable("Z"), op("div", number(1), number(1))), tuple(op("div", number(1), number(1)), variable("Z")), op("+", variable("_"), op("rem", number(1), number(0))), op("+", number(api.MaxInt), op("+", number(1), is("is_atom", variable("Z"))))} {
		wantArg(t, n, nil)
		wantArg(t, n, binds(t, "X=1"))
	}
	for _, s := range append([]string{"1", "X", "{X, 1}", "(X + 1)"}, noValues...) {
		for _, x := range noTerms() {
			wantArg(t, expr(t, s), []api.Bind{{S: "Q", T: x}})
		}
	}
}

// P11.1, P11.2: trees at the limits, and one past them.
func TestLimits(t *testing.T) {
	for _, deep := range []int{1, 2, 62, 63, 64, 65, 66, 1000} {
		if _, e := Value(deepNode(deep), nil); (e == api.OK) != (deep <= api.MaxDepth) || e != api.OK && e != api.ErrArg {
			t.Error(deep, e)
		}
		test := is("is_list", api.Node{K: api.NdCons, L: []api.Node{deepNode(deep), number(1)}})
		if Test(test, nil) != (deep+2 <= api.MaxDepth) || Holds(guard(test), nil) != (deep+3 <= api.MaxDepth) {
			t.Error(deep, "in a test, in a guard")
		}
	}
	for _, n := range []int{api.MaxNodes - 2, api.MaxNodes - 1, api.MaxNodes, api.MaxNodes + 1, 1 << 16} {
		want := api.ErrGuard // its term would be too great
		if n > api.MaxNodes {
			want = api.ErrArg
		}
		if x, e := Value(wideNode(n), nil); e != want || !sameTerm(x, api.Term{}) {
			t.Error(n, e)
		}
	}
	for n := api.MaxNodes - 5; n <= api.MaxNodes+5; n += 2 {
		sum := sumOf(n)
		if x, e := Value(sum, nil); (e == api.OK) != (n <= api.MaxNodes) || x.N != 0 && x.N != (n+1)/2 {
			t.Error(n, x, e)
		}
		one, two := is("is_integer", sum), op("=:=", sum, number((n+1)/2))
		if Test(one, nil) != (n+1 <= api.MaxNodes) || Holds(guard(one), nil) != (n+2 <= api.MaxNodes) || Test(two, nil) != (n+2 <= api.MaxNodes) || Holds(guard(two), nil) != (n+3 <= api.MaxNodes) {
			t.Error(n, "in a test, in a guard")
		}
	}
	yes := is("is_list", api.Node{K: api.NdNil})
	for _, n := range []int{2046, 2047, 2048, 2049, 1 << 16} {
		if Holds(guard(slices.Repeat([]api.Node{yes}, n)...), nil) != (2*n+1 <= api.MaxNodes) {
			t.Error(n, "tests")
		}
	}
	for _, n := range []api.Node{roundNode(), tuple(roundNode()), op("+", roundNode(), number(1))} {
		wantInNone(t, n, nil)
		wantInNone(t, n, binds(t, "X=1"))
	}
	wantNoTest(t, roundNode(), nil)
	if Holds(roundNode(), nil) {
		t.Error("a tuple that holds itself")
	}
}

// sumOf is a sum of ones of so many nodes, an odd number.
func sumOf(n int) api.Node {
	if n == 1 {
		return number(1)
	}
	half := (n - 1) / 2
	return op("+", sumOf(half-1+half%2), sumOf(half+1-half%2))
}

// P11.1, P11.2: names that are bound to a term that may not be, whether or not the guard tells them.
func TestWrongTerms(t *testing.T) {
	good := binds(t, "X=3;A=a;X=4")
	var exprs, tests []api.Node
	for _, s := range append([]string{"1", "a", "[]", "{}", "X", "Q", "{Q, X}", "(X + 1)", "[Q|A]", "(Q + X)"}, noValues...) {
		exprs = append(exprs, expr(t, s))
	}
	for _, s := range []string{"(1 =:= 1)", "(X =:= 3)", "(Q =/= 1)", "(X =/= Q)", "is_list([])", "is_atom(A)", "is_integer(Q)", "is_tuple({Q})"} {
		tests = append(tests, whens(t, s).L[0])
	}
	for _, x := range noTerms() {
		for _, name := range []string{"X", "A", "Q", "_", "", "q"} {
			for at := range len(good) + 1 {
				l := slices.Insert(slices.Clone(good), at, api.Bind{S: name, T: x})
				for _, n := range exprs {
					wantArg(t, n, l)
				}
				for _, n := range tests {
					wantNoTest(t, n, l)
				}
				if Holds(guard(), l) || Holds(guard(tests...), l) {
					t.Errorf("%q at %d", name, at)
				}
			}
		}
		wantArg(t, op("div", number(1), number(1)), []api.Bind{{S: "X", T: x}})
	}
	if !Holds(guard(tests[0], tests[1], tests[4], tests[5]), good) {
		t.Error("they hold else")
	}
}

// P11.1, P11.2: what stands behind the end of what is handed in is no part of it.
func TestBehind(t *testing.T) {
	l := binds(t, "X=3;Z=1;Q=1")
	l[2].T = api.Term{K: -1}
	wantValue(t, expr(t, "(X + 1)"), l[:1], num(4), api.OK)
	wantValue(t, expr(t, "Z"), l[:1], api.Term{}, api.ErrGuard)
	tests := []api.Node{whens(t, "(X =:= 3)").L[0], whens(t, "(X =:= 4)").L[0]}
	if !Holds(guard(tests[:1]...), l[:1]) || !Test(tests[0], l[:1]) || !Holds(api.Node{K: api.NdGuard, L: tests[:0]}, l[:0]) {
		t.Error("behind the end")
	}
}
