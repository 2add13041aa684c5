package rules

import (
	"slices"
	"strconv"
	"strings"
	"testing"

	"pleach/api"
	"pleach/ast"
)

// P9.1: names that are bound, in each part in which they may be, and told behind it; and Bad, where it is not bound.
func TestNamesBound(t *testing.T) {
	for _, s := range []string{
		// a head, and its guard
		"f(X) -> X", "f({[X|_], 1}) when is_atom(X) -> X", "f(X, X) when (X < {X}) -> 1", "f(_) -> 1", "f(X) -> 1; f(Y) -> Y; f(_) -> 2",
		// ahead of =
		"f() -> (X = 1), X", "f(X) -> (X = X)", "f() -> ({X, [Y|_], X} = 1), {Y, X}", "f() -> (_ = 1)", "f() -> (X = (Y = 1)), {X, Y}", "f() -> (X = {(Y = 1), Y})", "f() -> ({X, Y} = 1), (Z = {Y, X})",
		// a part of a tuple, a call, a cons, an operation, told by a part behind it
		"f() -> {(X = 1), X}", "f() -> [(X = 1)|X]", "f() -> ((X = 1) + X)", "f() -> ((X = 1) =:= X)", "f() -> g((X = 1), X), X", "f() -> m:g((X = 1), X), X", "f(Y) -> Y((X = 1), X), X", "f() -> send((X = 1), {X}), X", "f() -> {{{(X = 1)}}}, X", "f() -> {(X = fun m:g/2), X(1, 2)}",
		// case: its expression, its clauses
		"f() -> case (X = 1) of _ when is_atom(X) -> X; X -> X end", "f(X) -> case X of X -> X; Y when (X < Y) -> {X, Y}; Y -> Y end", "f() -> case 1 of {X, Y} -> (Z = X), {Y, Z}; Z -> Z end, (X = 1), X", "f() -> case (X = 1) of X -> 1 end, case (X = 2) of X -> X end", "f(X) -> case 1 of _ -> case 2 of Y -> {X, Y} end, X end",
		// try
		"f() -> try (X = 1) catch error:X -> X; X:Y -> {X, Y}; X:X when is_atom(X) -> X; _:_ -> 1 end", "f() -> try {(X = 1), X} catch _:_ -> 1 end", "f(X) -> try X catch X:Y when (Y < X) -> (Z = Y), {X, Y, Z} end, X",
		// receive, after
		"f(X) -> receive X -> X; {Y, Z} when (Y < X) -> {Y, Z}; Y -> (Z = Y), Z after X -> X end", "f() -> receive after (X = 1) -> X, (Y = X), Y end", "f() -> receive X -> X after 1 -> (X = 1), X end, receive X -> X end",
	} {
		wantLet(t, "module m. g(_, _) -> 1. "+s+".")
	}
	for _, s := range []string{
		"f() -> $", "f(X) -> $", "f(_) -> $, X", "f(Bad) -> Bad; f(_) -> $", "f(_, Bad) -> 1; f(X, Y) -> X, {Y, $}",
		"f() when is_atom($) -> 1", "f(X) when is_atom(X), (X < {1, $}) -> 1", "f(X) when is_atom(X) -> 1; f(_) when (1 < (2 + $)) -> 1", "f() when is_list([$|1]) -> (Bad = 1)", "f() when ($ =/= 1) -> Bad",
		"f() -> (Bad = $)", "f() -> $, (Bad = 1)", "f() -> (X = $)", "f() -> ({Bad, 1} = {1, $})", "f() -> (X = (Y = $))", "f() -> ({Bad} = {$, (Bad = 1)})",
		// by a part ahead of the one that binds
		"f() -> {$, (Bad = 1)}", "f() -> [$|(Bad = 1)]", "f() -> ($ + (Bad = 1))", "f() -> ($ =< (Bad = 1))", "f() -> g($, (Bad = 1))", "f() -> m:g($, (Bad = 1))", "f(X) -> X($, (Bad = 1))", "f() -> {{$}, {(Bad = 1)}}", "f() -> hd($), (Bad = 1)",
		// behind case, try and receive
		"f() -> case 1 of Bad -> 1 end, $", "f() -> case (Bad = 1) of _ -> Bad end, $", "f() -> case 1 of _ -> (Bad = 1) end, $", "f() -> case 1 of Bad -> Bad; _ -> $ end", "f() -> case 1 of Bad -> 1; X when (X < $) -> 1 end", "f() -> case $ of Bad -> 1 end", "f() -> {case 1 of Bad -> 1 end, $}", "f() -> (X = case 1 of Bad -> 1 end), {X, $}", "f() -> case case 1 of Bad -> 1 end of _ -> $ end", "f() -> case 1 of X when is_atom(X) -> (Bad = X); _ -> $ end", "f() -> case 1 of _ -> case (Bad = 1) of _ -> Bad end, $ end", "f() -> g(case (Bad = 1) of _ -> Bad end, $)",
		"f() -> try 1 catch _:Bad -> 1 end, $", "f() -> try 1 catch Bad:_ -> 1 end, $", "f() -> try (Bad = 1) catch _:_ -> 1 end, $", "f() -> try (Bad = 1) catch _:_ -> $ end", "f() -> try (Bad = 1) catch _:_ when is_pid($) -> 1 end", "f() -> try {(Bad = 1), Bad} catch _:_ -> 1; _:X -> {X, $} end", "f() -> try 1 catch Bad:_ -> 1; _:_ -> $ end", "f() -> try 1 catch _:_ -> (Bad = 1) end, $", "f() -> try $ catch _:Bad -> Bad end",
		"f() -> receive Bad -> 1 end, $", "f() -> receive Bad -> Bad; _ -> $ end", "f() -> receive Bad -> 1 after $ -> 1 end", "f() -> receive Bad -> 1 after 1 -> $ end", "f() -> receive _ -> $ after (Bad = 1) -> 1 end", "f() -> receive after (Bad = 1) -> Bad end, $", "f() -> receive after 1 -> (Bad = 1) end, $", "f() -> receive after $ -> (Bad = 1) end", "f() -> receive _ when ($ < 1) -> (Bad = 1) end",
		// another clause's, another function's
		"f(Bad, _) -> 1; f(_, _) -> $", "h(Bad) -> (Bad = 1). f() -> $", "f() -> 1; f() -> (Bad = 1); f() -> $", "f(Bad) -> Bad. module n. f() -> $",
	} {
		s = "module m. g(_, _) -> 1. " + strings.Replace(s, "$", "{here, Bad}", 1) + "."
		wantHere(t, s, api.ErrBind)
		wantUnnamed(t, s)
	}
	wantTree(t, tree(t, body("Bad((Bad = 1))")), 6, api.ErrBind)
	wantTree(t, tree(t, body("(X = 1), Bad(X)")), 9, api.ErrBind)
}

// wantUnnamed holds that _ is refused, too, where a name is that is not bound.
func wantUnnamed(t *testing.T, s string) {
	t.Helper()
	n := clone(tree(t, s))
	at := places(n, "here")[0] + 1
	change(&n, at, func(p *api.Node) { p.S = "_" })
	wantTree(t, n, at, api.ErrBind)
}

// change changes the node at a place.
func change(n *api.Node, at int, to func(n *api.Node)) {
	if at == 0 {
		to(n)
		return
	}
	at--
	for i := range n.L {
		if many := count(n.L[i]); at >= many {
			at -= many
			continue
		}
		change(&n.L[i], at, to)
		return
	}
}

// P9.1: places, counted by hand.
func TestNamePlaces(t *testing.T) {
	for s, at := range map[string]int{
		"module m. f(X) -> Y.": 6, "module m. f(X) -> X, Y.": 7, "module m. f(X) when (X < Y) -> 1.": 8, "module m. f(X) -> 1; f(Z) -> Y.": 10, "module m. f(X) -> (Y = Y).": 8, "module m. f(X) -> ({X, Z} = {X, Y}).": 12, "module m. f() -> case 1 of Z -> Y end.": 10, "module m. f() -> try 1 catch A:Z -> Y end.": 11, "module m. f() -> receive after Y -> Z end.": 7, "module m. f() -> 1. module n. f() -> _.": 10, "module m. f() -> {_}.": 6, "module m. f() when is_atom(_) -> 1.": 6, "module m. f(_) -> _(1).": 7, "module m. f(X) -> X(_, Y).": 8,
	} {
		wantTree(t, tree(t, s), at, api.ErrBind)
	}
	// The least place of several.
	for s, at := range map[string]int{
		"module m. f() -> Z, Y, X.": 5, "module m. f(X) -> {X, Z}, Y.": 8, "module m. f() -> (A = Z), (B = Y).": 7, "module m. f() -> 1. g() -> Z. module n. f() -> Y.": 9, "module m. f() when is_atom(Z) -> Y.": 6, "module m. f() -> case Z of A -> Y end.": 6,
	} {
		wantTree(t, tree(t, s), at, api.ErrBind)
	}
}

// names are so many, each another one.
func names(many int) []string {
	var l []string
	for i := range many {
		l = append(l, "N"+strconv.Itoa(i))
	}
	return l
}

// tuple is a tuple of those.
func tuple(l []string) string { return "{" + strings.Join(l, ", ") + "}" }

// P9.1: as many names at once as may be, and one more, arguments counted.
func TestSlots(t *testing.T) {
	for arity := range api.MaxArity + 1 {
		head := strings.TrimSuffix(strings.Repeat("_, ", arity), ", ")
		full := names(api.MaxSlots - arity)
		for _, in := range []string{"($ = 1)", "{($ = 1)}", "case 1 of $ -> 1 end", "case ($ = 1) of _ -> 1 end", "try 1 catch _:$ -> 1 end", "try ($ = 1) catch _:_ -> 1 end", "receive $ -> 1 end", "receive _ -> 1 after ($ = 1) -> 1 end", "receive after 1 -> 2, ($ = 1) end", "g(($ = 1))", "1, [a|($ = 2)]"} {
			s := "module m. g(_) -> 1. f(" + head + ") -> " + in + "."
			wantLet(t, strings.Replace(s, "$", tuple(full), 1))
			wantLet(t, strings.Replace(s, "$", tuple(append(full, full...)), 1))
			wantRefused(t, strings.Replace(s, "$", tuple(append(full, "Bad")), 1), api.ErrLimit, "Bad", 0)
			wantRefused(t, strings.Replace(s, "$", tuple(append(full, "_", full[0], "Bad", "Bad", "More")), 1), api.ErrLimit, "Bad", 0)
		}
	}
	// Names of the head are such, too: eight arguments, eight names of theirs, and as many more as may be.
	head := "module m. f(" + strings.Join(names(8), ", ") + ") -> "
	for i, more := range []string{"1", "(" + tuple(names(24)) + " = 1)", "(" + tuple(names(24)[8:]) + " = 1), (N3 = N23), case N3 of N4 -> N5 end"} {
		wantLet(t, head+more+".")
		if i > 0 {
			wantRefused(t, head+more+", (Bad = 1), (More = 2).", api.ErrLimit, "Bad", 0)
		}
	}
	wantRefused(t, "module m. f("+strings.Join(names(7), ", ")+", "+tuple(names(25))+") -> 1.", api.ErrLimit, "N24", 0)
	wantLet(t, "module m. f("+strings.Join(names(7), ", ")+", "+tuple(names(24))+") -> 1.")
}

// P9.1: names that are let go of make room.
func TestSlotsAgain(t *testing.T) {
	all, few := tuple(names(32)), tuple(names(31))
	for _, s := range []string{
		"case 1 of " + all + " -> 1; {A, B} -> 1 end, case 1 of " + strings.ReplaceAll(all, "N", "M") + " -> 1 end, (" + strings.ReplaceAll(all, "N", "L") + " = 1)",
		"try (" + all + " = 1) catch " + "A:" + strings.ReplaceAll(few, "N", "M") + " -> 1; _:B -> 1 end, (" + strings.ReplaceAll(all, "N", "L") + " = 1)",
		"receive " + all + " -> 1; " + strings.ReplaceAll(all, "N", "M") + " -> 1 after (A = 1) -> (" + strings.ReplaceAll(few, "N", "L") + " = 2) end, (B = 1)",
		"(" + few + " = 1), case 1 of A -> 1; B -> 1 end, try (C = 1) catch _:D -> 1; D:_ -> 2 end, receive D -> 1; F -> 2 after (G = 1) -> G end, (H = 1)",
		"case (A = 1) of " + few + " -> 1; {B, C} -> 2 end, (" + few + " = 1), {case 1 of D -> 1 end, (E = 1)}",
	} {
		wantLet(t, body(s))
		wantLet(t, "module m. f() -> "+s+"; f() -> "+s+". g() -> "+s+".")
	}
	for _, s := range []string{
		"(" + few + " = 1), (A = 1), case 1 of Bad -> 1 end", "(" + few + " = 1), case (A = 1) of Bad -> 1 end", "(" + few + " = 1), case 1 of A -> (Bad = 1) end", "(" + few + " = 1), try 1 catch A:Bad -> 1 end", "(" + few + " = 1), receive after (A = 1) -> (Bad = 1) end", "(" + few + " = 1), receive A -> 1; {B, Bad} -> 2 end", "(" + few + " = 1), case 1 of A -> 1 end, (B = 1), (Bad = 1)", "(" + few + " = 1), try {(A = 1), (Bad = 2)} catch _:_ -> 1 end", "(" + few + " = 1), {(A = 1), (Bad = 1)}", "(" + few + " = 1), [(A = 1)|(Bad = 1)]", "(" + few + " = 1), ((A = 1) + (Bad = 1))", "(" + few + " = 1), {(A = 1), case 1 of Bad -> (More = 1) end}",
	} {
		wantRefused(t, body(s), api.ErrLimit, "Bad", 0)
		wantRefused(t, "module m. f() -> (A = 1); f() -> "+s+"; f() -> "+s+".", api.ErrLimit, "Bad", 0)
	}
	// The first one as the rules go over it, whatever places stand ahead.
	wantRefused(t, body("("+few+" = 1), (Bad = (A = 1))"), api.ErrLimit, "Bad", 0)
	wantRefused(t, body("("+few+" = 1), (A = (Bad = (B = 1)))"), api.ErrLimit, "Bad", 0)
	wantRefused(t, body("("+all+" = 1), (A = (Bad = 1))"), api.ErrLimit, "Bad", 0)
	wantRefused(t, body("("+all+" = 1), (A = (B = (Bad = 1)))"), api.ErrLimit, "Bad", 0)
	wantRefused(t, body("({A, B} = {("+few+" = 1), case 1 of C -> 1 end, (D = 1), (Bad = 2), ({E} = 3)})"), api.ErrLimit, "Bad", 0)
	wantRefused(t, body("({A, Bad} = ("+few+" = 1)), (B = 2)"), api.ErrLimit, "Bad", 0)
	wantRefused(t, "module m. f() -> ("+all+" = (B = (A = 1))). g() -> ("+all+" = 1), (M = 1).", api.ErrLimit, "N30", 0)
}

// P9.1: two rules that are broken at once, the one that goes ahead at the greater place.
func TestRulesOrder(t *testing.T) {
	slots := "(" + tuple(names(33)) + " = 1)"
	// Each is broken in modules of its own names, where $ stands.
	broken := []struct {
		e          api.Errno
		text, name string
		nth        int
	}{
		{api.ErrTwice, "module m$. module m$.", "m$", 1},
		{api.ErrTwice, "module n$. f$() -> 1. f$() -> 1.", "f$", 1},
		{api.ErrBind, "module o$. f() -> X$.", "X$", 0},
		{api.ErrCall, "module p$. f() -> g$().", "g$", 0},
		{api.ErrLimit, "module q$. f() -> " + strings.ReplaceAll(slots, "N", "N$") + ".", "N$32", 0},
	}
	as := func(s, name string) string { return strings.ReplaceAll(s, "$", name) }
	for i, a := range broken {
		for _, b := range broken[:i+1] {
			// The rule of b goes ahead, or is the same one: the least place is told of that.
			wantRefused(t, as(b.text, "b")+" "+as(a.text, "a"), b.e, as(b.name, "b"), b.nth)
			if b != a {
				wantRefused(t, as(a.text, "a")+" "+as(b.text, "b"), b.e, as(b.name, "b"), b.nth)
			}
		}
		// A function of a built-in's name is of the rule of functions.
		built := "module z. self() -> 1. "
		if i < 3 {
			wantRefused(t, built+as(a.text, "a"), a.e, as(a.name, "a"), a.nth)
		} else {
			wantRefused(t, built+as(a.text, "a"), api.ErrTwice, "self", 0)
		}
	}
	wantRefused(t, body("g(), Bad, "+slots), api.ErrBind, "Bad", 0)
	wantRefused(t, body(slots+", g()"), api.ErrCall, "g", 0)
	wantRefused(t, "module m. f() -> Bad. f() -> 1.", api.ErrTwice, "f", 1)
	wantRefused(t, "module m. f() -> 1. f() -> 1. module m.", api.ErrTwice, "m", 1)
	wantRefused(t, "module m. self() -> Bad. self() -> 1.", api.ErrTwice, "self", 1)
}

// P9.2: the names that a clause binds, in the order in which they are bound first.
func TestClauseNames(t *testing.T) {
	for s, want := range map[string]string{
		"f() -> 1": "", "f(_) -> _": "", "f(X) -> X": "X", "f(X, {Y, [X|Z]}, _) -> 1": "X Y Z", "f(X) when (Y < X) -> Z": "X", "f() -> X, Y(), {Z}": "",
		"f() -> (X = (Y = 1))": "Y X", "f() -> ({X, Y} = {(Z = 1), (X = 2)})": "Z X Y", "f(X) -> (Y = case X of Z -> (W = 1); V -> 2 end)": "X Z W V Y",
		"f() -> case (A = 1) of {B, C} when (B < D) -> (D = 1); A -> E; C -> (E = 1) end": "A B C D E", "f() -> try (A = (B = 1)) catch C:A -> (D = C); E:B -> 1 end, (A = 1)": "B A C D E",
		"f() -> receive A -> (B = 1); {B, C} -> 1 after (D = 1) -> (E = A) end, (F = D)": "A B C D E F", "f() -> {(A = 1), [(B = 1)|(C = 1)], ((D = 1) + (E = 1)), g((F = 1)), m:g((G = 1)), X((H = 1)), fun m:f/1}": "A B C D E F G H",
		"f(X1, x, X2, 1, X1) -> 1": "X1 X2", "f(_X, __) -> 1": "_X __", "f(A, B, C, D, E, F, G, H) -> (I = 1)": "A B C D E F G H I",
		"f() -> (" + tuple(names(100)) + " = 1)": strings.Join(names(100), " "),
	} {
		n := tree(t, "module m. "+s+".")
		c := n.L[0].L[0].L[0]
		same := clone(c)
		for range 2 {
			l := Names(c)
			if !slices.Equal(l, strings.Fields(want)) {
				t.Errorf("%.100q: %v, not %s", s, l, want)
			}
			for i := range l {
				l[i] = "x"
			}
		}
		if !ast.Same(c, same) {
			t.Errorf("%.100q: changed", s)
		}
		// Of a clause that stands among others, too.
		if l := Names(tree(t, "module m. "+s+"; "+s+".").L[0].L[0].L[1]); !slices.Equal(l, strings.Fields(want)) {
			t.Errorf("%.100q, the second one: %v, not %s", s, l, want)
		}
	}
	// A case's clause might be a function's.
	c := tree(t, body("case (X = 1) of {Y, X} -> (Z = Y) end")).L[0].L[0].L[0].L[1].L[1]
	if l := Names(c); !slices.Equal(l, []string{"Y", "X", "Z"}) {
		t.Error(l)
	}
}

// P9.2: what might be no function's only clause binds no names.
func TestNoClauseNames(t *testing.T) {
	x := api.Node{K: api.NdVar, S: "X"}
	guard, one := api.Node{K: api.NdGuard}, api.Node{K: api.NdInt, N: 1}
	clause := func(n int, l ...api.Node) api.Node { return api.Node{K: api.NdClause, N: n, L: l} }
	eight := []api.Node{x, x, x, x, x, x, x, x}
	endless := clause(1, x, guard, api.Node{K: api.NdTuple, L: []api.Node{{}}})
	endless.L[2].L[0] = endless.L[2]
	for what, c := range map[string]api.Node{
		"nothing": {}, "a name": x, "a match": {K: api.NdMatch, L: []api.Node{x, one}}, "a guard": guard, "an after": {K: api.NdAfter, L: []api.Node{one, one}}, "a function": tree(t, "module m. f(X) -> X.").L[0].L[0], "a module": tree(t, "module m. f(X) -> X.").L[0], "modules": tree(t, "module m. f(X) -> X."),
		"no parts": clause(0), "no guard": clause(1, x, one), "no body": clause(1, x, guard), "fewer patterns": clause(2, x, guard, one), "more patterns": clause(1, x, x, guard, one), "below 0": clause(-1, x, guard, one), "a great number": clause(1<<62, x, guard, one), "the least number": clause(-1<<63, x, guard, one),
		"a name beside": {K: api.NdClause, N: 1, S: "f", L: []api.Node{x, guard, one}}, "no pattern": clause(1, api.Node{K: api.NdOp, S: "+", L: []api.Node{x, x}}, guard, one), "a guard's name": clause(1, x, api.Node{K: api.NdGuard, S: "X"}, one), "a wrong name": clause(1, api.Node{K: api.NdVar, S: "x"}, guard, one), "a guard as its body": clause(1, x, guard, guard), "endless": endless,
		"nine": clause(9, append(slices.Clone(eight), x, guard, one)...), "deep": clause(1, x, guard, nest(61)), "deep patterns": clause(1, nest(61), guard, one), "shared": clause(1, x, guard, shared(40)), "great": clause(1, x, guard, api.Node{K: api.NdTuple, L: make([]api.Node, 1<<20)}), "full and one": clause(1, x, guard, wide(api.MaxNodes-5)),
		"a try's": clause(2, api.Node{K: api.NdAtom, S: "end"}, x, guard, one),
	} {
		for range 2 {
			if l := Names(c); len(l) != 0 {
				t.Errorf("%s: %v", what, l)
			}
		}
	}
	for what, c := range map[string]api.Node{"eight": clause(8, append(slices.Clone(eight), guard, one)...), "as deep as may be": clause(1, x, guard, nest(60)), "full": clause(1, x, guard, wide(api.MaxNodes-6))} {
		if l := Names(c); !slices.Equal(l, []string{"X"}) {
			t.Errorf("%s: %v", what, l)
		}
	}
}

// wide is a tuple of so many nodes.
func wide(many int) api.Node {
	n := api.Node{K: api.NdTuple}
	for range many - 1 {
		n.L = append(n.L, api.Node{K: api.NdNil})
	}
	return n
}
