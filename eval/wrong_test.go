package eval

import (
	"math"
	"slices"
	"strings"
	"testing"

	"pleach/api"
	"pleach/ast"
	"pleach/rules"
)

func variable(s string) api.Node { return api.Node{K: api.NdVar, S: s} }

func number(n int) api.Node { return api.Node{K: api.NdInt, N: n} }

func tuple(l ...api.Node) api.Node { return api.Node{K: api.NdTuple, L: l} }

// wantNone holds that a call tells ErrArg, and nothing else.
func wantNone(t *testing.T, what string, g given) {
	t.Helper()
	for _, steps := range []int{0, 9, most} {
		o, l, left, e := Expr(g.N, g.Module, g.E, g.L, steps)
		if g.Name != "" {
			o, left, e = Call(g.N, g.Module, g.Name, g.Args, steps)
		}
		if tell(o) != "0" || o.T.L != nil || len(l) > 0 || left != 0 || e != api.ErrArg {
			t.Errorf("%s: %s, %d names, %d, %v", what, brief(tell(o)), len(l), left, e)
		}
	}
}

// wantLet holds that it tells something.
func wantLet(t *testing.T, what string, g given) {
	t.Helper()
	if got := g.run(9); got.e != api.OK {
		t.Errorf("%s: %v", what, got.e)
	}
}

// P12.1, P12.2: trees that the rules do not let be.
func TestWrongTrees(t *testing.T) {
	for _, s := range []string{"module m. f() -> X.", "module m. f() -> 1. f() -> 2.", "module m. f() -> 1. module m. g() -> 1.", "module m. f() -> g().", "module m. f() -> m:g().", "module m. f() -> 1. g() -> fun m:f/1.", "module m. f() -> 1. hd(X) -> X.", "module m. f() -> _.", "module m. f() -> 1. module n. g() -> f().", "module m. f() -> case 1 of X -> X end, X."} {
		n := mods(t, s)
		wantNone(t, s, given{N: n, Module: "m", Name: "f"})
		wantNone(t, s, given{N: n, Module: "m", E: number(1)})
	}
	f := mods(t, "module m. f() -> 1.")
	deep := number(1)
	for range api.MaxDepth {
		deep = tuple(deep)
	}
	wideNode := tuple(slices.Repeat([]api.Node{number(1)}, api.MaxNodes)...)
	l := make([]api.Node, 1)
	l[0] = tuple(l...)
	for i, e := range []api.Node{{}, {K: api.NdAfter}, {K: -1}, {K: math.MaxInt8}, variable("x"), {K: api.NdInt, N: math.MinInt}, {K: api.NdCons}, deep, wideNode, l[0]} {
		n := mods(t, "module m. f() -> 1.")
		n.L[0].L[0].L[0].L[1] = e
		wantNone(t, "a tree", given{N: n, Module: "m", Name: "f"})
		wantNone(t, "a tree", given{N: n, Module: "m", E: number(1)})
		wantLet(t, "a tree", given{N: f, Module: "m", Name: "f"})
		wantNone(t, "no expression", given{N: f, Module: "m", E: e})
		// The first one is modules, of which there are none.
		if i > 0 {
			wantNone(t, "no modules", given{N: e, Module: "m", Name: "f"})
			wantNone(t, "no modules", given{N: e, Module: "m", E: number(1)})
		}
	}
	for _, n := range []api.Node{f.L[0], f.L[0].L[0], f.L[0].L[0].L[0], {K: api.NdMods, N: 1}, {K: api.NdMods, S: "a"}, {K: api.NdMods, L: f.L[0].L}} {
		wantNone(t, "no modules", given{N: n, Module: "m", Name: "f"})
		wantNone(t, "no modules", given{N: n, Module: "m", E: number(1)})
	}
	// Of no modules there is no function, but there are expressions.
	wantNone(t, "no function", given{Module: "m", Name: "f"})
	wantLet(t, "no modules", given{Module: "m", E: expr(t, "{hd([1|2]), self(), (X = 1), X}")})
}

// P12.1: arguments that are no terms, functions that are not there.
func TestWrongArgs(t *testing.T) {
	n := mods(t, text)
	for _, x := range noTerms() {
		wantNone(t, "id", given{N: n, Module: "m", Name: "id", Args: []api.Term{x}})
		for at := range api.MaxArity {
			args := slices.Repeat([]api.Term{num(1)}, api.MaxArity)
			wantLet(t, "eight", given{N: n, Module: "m", Name: "eight", Args: args})
			args[at] = x
			wantNone(t, "eight", given{N: n, Module: "m", Name: "eight", Args: args})
		}
	}
	for _, name := range []string{"id", "two", "eight", "seven", "nope", "hd", "ID", strings.Repeat("a", 1<<16)} {
		for _, module := range []string{"m", "o", "q", "M", "", "m "} {
			for _, many := range []int{0, 1, 2, 3, 8, 9, 1 << 10} {
				g := given{N: n, Module: module, Name: name, Args: slices.Repeat([]api.Term{num(1)}, many)}
				if _, ok := rules.Find(n, module, name, many); ok {
					wantLet(t, name, g)
				} else {
					wantNone(t, name, g)
				}
			}
		}
	}
	// Nothing stands behind the end of the arguments.
	args := []api.Term{num(1), {K: -1}}
	wantLet(t, "id", given{N: n, Module: "m", Name: "id", Args: args[:1]})
	wantLet(t, "seven", given{N: n, Module: "m", Name: "seven", Args: args[:0]})
	wantNone(t, "id", given{N: n, Module: "m", Name: "id", Args: args[1:]})
}

// P12.2: what is no expression.
func TestWrongExpressions(t *testing.T) {
	n := mods(t, "module m. f(X) when is_atom(X), (X < 1) -> receive X -> 1 after 1 -> 2 end, case X of Y when (Y < {X, (Y + 1)}) -> 1 end.")
	var all func(n api.Node) []api.Node
	all = func(n api.Node) []api.Node {
		l := []api.Node{n}
		for _, p := range n.L {
			l = append(l, all(p)...)
		}
		return l
	}
	many := map[bool]int{}
	for _, e := range all(n) {
		for _, e := range []api.Node{e, tuple(e), tuple(number(1), tuple(number(1), e)), {K: api.NdMatch, L: []api.Node{variable("_"), e}}, {K: api.NdCall, S: "hd", L: []api.Node{e}}} {
			g := given{N: n, Module: "m", E: e, L: binds(t, "X=1;Y=2")}
			many[ast.Expr(e)]++
			if ast.Expr(e) {
				wantLet(t, "an expression", g)
			} else {
				wantNone(t, "no expression", g)
			}
		}
	}
	if many[true] < 30 || many[false] < 30 {
		t.Error(many)
	}
	for deep := 62; deep < 67; deep++ {
		e := number(1)
		for range deep - 1 {
			e = tuple(e)
		}
		if g := (given{N: n, Module: "m", E: e}); deep <= api.MaxDepth {
			want(t, g, strings.Repeat("{", deep-1)+"1"+strings.Repeat("}", deep-1), "", deep)
		} else {
			wantNone(t, "deep", g)
		}
	}
	for nodes, e := range map[int]api.Errno{api.MaxNodes - 1: api.OK, api.MaxNodes: api.OK, api.MaxNodes + 1: api.ErrArg, 1 << 14: api.ErrArg} {
		g := given{N: n, Module: "m", E: tuple(slices.Repeat([]api.Node{number(1)}, nodes-1)...)}
		if got := g.run(most); got.e != e || e == api.OK && (got.out != "error:system_limit" || got.left != most-nodes) {
			t.Error(nodes, got.e, brief(got.out), got.left)
		}
	}
}

// P12.2: names that are not bound, in each part in which they may be; what is bound ahead of that part.
func TestUnbound(t *testing.T) {
	n := mods(t, text)
	for _, s := range []string{
		"$", "{$}", "{1, $}", "{$, (Bad = 1)}", "[$|1]", "[1|$]", "[$|(Bad = 1)]", "($ + 1)", "($ + (Bad = 1))", "((X = 1) =:= $)", "(X = $)", "(Bad = $)", "({X, Bad} = {1, $})", "(Good = (X = $))",
		"id($)", "two($, (Bad = 1))", "m:id($)", "o:two($, (Bad = 1))", "hd($)", "Bad()", "Bad((Bad = 1))", "Good($)", "Good($, (Bad = 1))", "{(X = 1), Bad(X)}",
		"case $ of _ -> 1 end", "case $ of Bad -> 1 end", "case 1 of _ -> $ end", "case 1 of _ when is_atom($) -> 1 end", "case 1 of _ when (1 < {1, ($ + 1)}) -> 1 end", "case 1 of Bad -> 1; _ -> $ end", "case 1 of Bad -> 1; _ when ($ < 1) -> 1 end", "case 1 of X -> $, (Bad = 1) end", "{case 1 of Bad -> 1 end, $}", "{case (Bad = 1) of _ -> Bad end, $}", "{case 1 of _ -> (Bad = 1) end, $}", "case case 1 of Bad -> 1 end of _ -> $ end", "case 1 of X -> case (Bad = 1) of _ -> Bad end, $ end", "{(X = case 1 of Bad -> Bad end), $}",
		"try $ catch _:_ -> 1 end", "try 1 catch _:_ -> $ end", "try 1 catch _:_ when ($ < 1) -> 1 end", "try (Bad = 1) catch _:_ -> $ end", "try (Bad = 1) catch _:_ when ($ =:= 1) -> 1 end", "{try (Bad = 1) catch _:_ -> 1 end, $}", "{try 1 catch Bad:_ -> 1 end, $}", "{try 1 catch _:Bad -> 1; _:_ -> $ end}", "try 1 catch Bad:_ -> 1; _:_ -> $ end", "{try 1 catch _:_ -> (Bad = 1) end, $}",
		"receive X -> $ end", "receive X when is_atom($) -> 1 end", "receive Bad -> 1; _ -> $ end", "receive after $ -> 1 end", "receive after 1 -> $ end", "receive after 1 -> $, (Bad = 1) end", "receive Bad -> 1 after $ -> 1 end", "receive Bad -> 1 after 1 -> $ end", "{receive Bad -> 1 end, $}", "{receive after (Bad = 1) -> 1 end, $}", "{receive after 1 -> (Bad = 1) end, $}",
	} {
		e := expr(t, strings.ReplaceAll(s, "$", "Bad"))
		l := binds(t, "Good=1")
		wantNone(t, s, given{N: n, Module: "m", E: e, L: l})
		wantNone(t, s, given{N: n, Module: "m", E: e, L: append(l, binds(t, "BAD=1;Ba=1;Badd=2")...)})
		wantLet(t, s, given{N: n, Module: "m", E: e, L: append(l, binds(t, "Bad=1")...)})
		// _ is never bound.
		if strings.Contains(s, "$") {
			wild := expr(t, strings.ReplaceAll(s, "$", "Wild"))
			change(&wild, func(n *api.Node) {
				if n.K == api.NdVar && n.S == "Wild" {
					n.S = "_"
				}
			})
			wantNone(t, s, given{N: n, Module: "m", E: wild, L: append(l, binds(t, "Bad=1")...)})
		}
	}
	for _, s := range []string{
		"(X = 1)", "{(X = 1), X}", "[(X = 1)|X]", "((X = 1) + X)", "two((X = 1), X)", "o:two((X = 1), X)", "Good((X = 1), X)", "send((X = 1), X)", "({X, Y} = {1, (X = 1)})", "(X = {(Y = 1), Y})", "{(F = 1), F(F)}",
		"case (X = 1) of X -> X end", "case (X = 1) of _ when (X < 1) -> 1; Y when (X < Y) -> {X, Y} end", "case 1 of X -> (Y = X), {X, Y}; Y -> Y end", "{case 1 of X -> X end, (X = 1), X}", "case 1 of {X, X} when is_atom(X) -> X end",
		"try {(X = 1), X} catch X:Y -> {X, Y}; _:X when (X < 1) -> X end", "{try 1 catch X:_ -> X end, (X = 1)}", "receive X -> X; {X, Y} when (X < Y) -> (Z = X), {X, Y, Z} after (X = 1) -> X, (Y = X), Y end", "receive after (X = 1) -> X end",
	} {
		wantLet(t, s, given{N: n, Module: "m", E: expr(t, s), L: binds(t, "Good=1")})
	}
}

// change changes the nodes of a tree.
func change(n *api.Node, to func(n *api.Node)) {
	to(n)
	for i := range n.L {
		change(&n.L[i], to)
	}
}

// P12.2: what an expression calls must be there, in the module that is told; also where it does not come to it.
func TestUncalled(t *testing.T) {
	n := mods(t, text)
	for call, modules := range map[string]string{
		"id(1)": "mo", "two(1, 2)": "mo", "id()": "", "id(1, 2)": "", "nope(1)": "", "seven()": "m", "home(1)": "o", "ref()": "o", "bad()": "m", "m:id(1)": "moq", "o:id(1)": "moq", "q:id(1)": "", "m:home(1)": "", "o:home(1)": "moq", "m:id()": "", "m:hd([])": "", "hd([])": "moq", "hd()": "", "hd(1, 2)": "", "exit(1, 2)": "moq", "exit()": "", "self()": "moq", "self(1)": "", "spawn_link(1, 2, 3)": "moq", "fun m:id/1": "moq", "fun m:id/2": "", "fun o:ref/0": "moq", "fun m:ref/0": "", "fun q:id/1": "", "fun m:hd/1": "", "F(1)": "moq", "F()": "moq",
	} {
		for _, in := range []string{"$", "{1, {$}}", "[$|1]", "(1 + $)", "(X = $)", "hd($)", "F($)", "m:id($)", "case $ of _ -> 1 end", "case 1 of 2 -> $ end", "try 1 catch _:_ -> $ end", "try $ catch _:_ -> 1 end", "receive X -> $ end", "receive after $ -> 1 end", "receive after 1 -> 2, $ end", "{throw(a), $}"} {
			for _, module := range []string{"m", "o", "q", "", "M"} {
				g := given{N: n, Module: module, E: expr(t, strings.Replace(in, "$", call, 1)), L: binds(t, "F=1")}
				is := module
				if is == "" || is == "M" {
					is = "q"
				}
				if strings.Contains(modules, is) {
					wantLet(t, call, g)
				} else {
					wantNone(t, call+" in "+module+", in "+in, g)
				}
			}
		}
	}
}

// P12.2: names that may not be; none, nil and empty.
func TestWrongNames(t *testing.T) {
	n := mods(t, text)
	good := binds(t, "X=3;A=a;X=4")
	for _, s := range []string{"1", "X", "{X, A}", "(A = a)", "hd([])", "receive X -> X end"} {
		e := expr(t, s)
		wantLet(t, s, given{N: n, Module: "m", E: e, L: good})
		for at := range len(good) + 1 {
			for _, x := range noTerms() {
				wantNone(t, s, given{N: n, Module: "m", E: e, L: slices.Insert(slices.Clone(good), at, api.Bind{S: "Q", T: x})})
			}
			for _, name := range []string{"", "_", "x", "1", "X-", " X", "É", strings.Repeat("A", 33), strings.Repeat("A", 1<<16)} {
				wantNone(t, s, given{N: n, Module: "m", E: e, L: slices.Insert(slices.Clone(good), at, api.Bind{S: name, T: num(1)})})
			}
		}
		for many, let := range map[int]bool{3: true, 63: true, 64: true, 65: false, 66: false, 1000: false} {
			l := slices.Concat(good, slices.Repeat([]api.Bind{{S: "N", T: num(1)}}, many-3))
			if g := (given{N: n, Module: "m", E: e, L: l}); let {
				wantLet(t, s, g)
			} else {
				wantNone(t, s, g)
			}
		}
	}
	for _, l := range [][]api.Bind{nil, {}, good[:0]} {
		want(t, given{N: n, Module: "m", E: expr(t, "{1, id(2)}"), L: l}, "{1,2}", "", 5)
		want(t, given{N: n, Module: "m", E: expr(t, "throw(a)"), L: l}, "throw:a", "", 2)
		wantNone(t, "X", given{N: n, Module: "m", E: expr(t, "X"), L: l})
	}
	for _, args := range [][]api.Term{nil, {}, make([]api.Term, 3)[:0]} {
		want(t, given{N: n, Module: "m", Name: "seven", Args: args}, "7", "", 1)
		wantNone(t, "id", given{N: n, Module: "m", Name: "id", Args: args})
	}
}

// P12.2: the names that are answered are the caller's own list.
func TestNewNames(t *testing.T) {
	n := mods(t, text)
	for _, s := range []string{"X", "(Y = X)", "hd(X)", "{(Y = X), (Z = Y)}", "case X of Y -> Y end"} {
		l := slices.Grow(binds(t, "X=1;V={a}"), 9)
		_, one, _, _ := Expr(n, "m", expr(t, s), l, 99)
		_, other, _, _ := Expr(n, "m", expr(t, s), l, 99)
		before := show(other)
		one = append(one, api.Bind{S: "W"})
		clear(one[:cap(one)])
		if show(other) != before || show(l) != "X=1;V={a}" {
			t.Error(s, show(other), show(l))
		}
		clear(l)
		if show(other) != before {
			t.Error(s, show(other))
		}
	}
}
