package rules

import (
	"errors"
	"slices"
	"strconv"
	"strings"
	"testing"

	"pleach/api"
	"pleach/ast"
	"pleach/parse"
)

// tree is that of a text of modules.
func tree(t *testing.T, s string) api.Node {
	t.Helper()
	n, f := parse.Mods(s)
	if f.E != api.OK {
		t.Fatalf("%q: %v", s, f)
	}
	return n
}

// body is a module of one function without arguments.
func body(s string) string { return "module m. f() -> " + s + "." }

// clone is a tree that shares nothing with the other one.
func clone(n api.Node) api.Node {
	n.L = slices.Clone(n.L)
	for i, p := range n.L {
		n.L[i] = clone(p)
	}
	return n
}

// count is how many nodes a tree has.
func count(n api.Node) int {
	many := 1
	for _, p := range n.L {
		many += count(p)
	}
	return many
}

// places are those of all nodes that say s, as modules, functions, calls, names, atoms do.
func places(n api.Node, s string) []int {
	var l []int
	at := 0
	var walk func(n api.Node)
	walk = func(n api.Node) {
		if n.S == s || n.T == s {
			l = append(l, at)
		}
		at++
		for _, p := range n.L {
			walk(p)
		}
	}
	walk(n)
	return l
}

// wantTree holds what Check says of a tree, again and again, and that the tree is not changed.
func wantTree(t *testing.T, n api.Node, at int, e api.Errno) {
	t.Helper()
	same := clone(n)
	for range 2 {
		if a, got := Check(n); a != at || got != e {
			t.Errorf("%.300q: %v at %d, not %v at %d", ast.Text(n), got, a, e, at)
		}
	}
	if !ast.Same(n, same) {
		t.Errorf("%.300q: changed", ast.Text(same))
	}
}

// wantLet holds that a text is let be.
func wantLet(t *testing.T, s string) {
	t.Helper()
	wantTree(t, tree(t, s), 0, api.OK)
}

// wantRefused holds that a text is refused at the node that says name, the nth of these (0 is the first one).
func wantRefused(t *testing.T, s string, e api.Errno, name string, nth int) {
	t.Helper()
	n := tree(t, s)
	l := places(n, name)
	if nth >= len(l) {
		t.Fatalf("%q: no %s, %d", s, name, nth)
	}
	wantTree(t, n, l[nth], e)
}

// wantHere holds that a text is refused at the node behind the first atom here.
func wantHere(t *testing.T, s string, e api.Errno) {
	t.Helper()
	n := tree(t, s)
	wantTree(t, n, places(n, "here")[0]+1, e)
}

// lets are texts that are let be; all kinds of nodes stand in them.
var lets = []string{
	"", "module m.", "module m. module n.", body("1"),
	"module m. f(X) -> X. f(X, Y) -> {X, Y}. f() -> f(1, 2).",
	"module m. f() -> 1. module n. f() -> 2.",
	"module m. f(0) -> 1; f(-1) -> []; f(a) -> {}; f([X|Y]) -> [Y|X]; f({X, {Y}, X}) -> {Y, X}; f(_1) -> _1, 2. g(_, _, _) -> 3.",
	"module m. f(X, Y) when is_atom(X), is_tuple({X, [Y|X]}), ((X + (Y * 2)) < -3), (X =:= []) -> (X >= (Y div (X rem 2))).",
	"module m. f(X) -> g(X), m:g({X}), X(), X(X, g(1)), fun m:f/1, fun n:h/0. g(X) -> n:h(), X. module n. h() -> fun m:g/1.",
	"module m. f(X) -> case X of {Y, Z} when (Y < Z) -> Y, Z; Y -> {Y, X}; _ -> X end, try X catch error:E -> E; C:{D} when is_list(D) -> C, D; throw:_ -> X end.",
	"module m. f(X) -> receive {X, Y} when (X > Y) -> Y; Y -> {Y}; a -> X after X -> (Y = X), Y end, receive a -> b end, receive after 1 -> X end.",
	"module m. f(X) -> (Y = X), (Y = (Z = {Y})), {Z, Y, X}, ([A|{B}] = [1|2]), (A + B), (_ = A).",
	"module m. f() -> self(), spawn_link(m, f, []), link(1), monitor(1), exit(1), exit(1, 2), error(1), throw(1), trap_exit(1), register(1), whereis(1), make_ref(), element(1, 2), length(1), hd(1), tl(1), tuple_size(1), send(1, 2), out(1), now(), call(1, 2, 3), cast(1, 2), start_child(1, 2), terminate_child(1, 2), restart_child(1, 2), delete_child(1, 2), which_children(1).",
}

// P9.1: trees of every kind of node that are let be.
func TestLets(t *testing.T) {
	kinds := map[int8]bool{}
	for _, s := range lets {
		wantLet(t, s)
		wantLet(t, s+" module other."+" module one_more. f() -> 1.")
		var walk func(n api.Node)
		walk = func(n api.Node) {
			kinds[n.K] = true
			for _, p := range n.L {
				walk(p)
			}
		}
		walk(tree(t, s))
	}
	if len(kinds) != int(api.NdAfter)+1 {
		t.Error("kinds that are left out:", kinds)
	}
}

// P9.1: a refusal is asked by its number, and by what wraps it.
func TestRefusal(t *testing.T) {
	if err := refusal(tree(t, lets[4])); err != nil {
		t.Error(err)
	}
	for s, want := range map[string]api.Refused{
		body("X"): {Layer: 9, E: api.ErrBind, At: 5}, body("g()"): {Layer: 9, E: api.ErrCall, At: 5}, "module a. module a.": {Layer: 9, E: api.ErrTwice, At: 2},
	} {
		err := refusal(tree(t, s))
		var r *api.Refused
		if !errors.As(err, &r) || *r != want || !errors.Is(err, want.E) || errors.Is(err, api.ErrTree) {
			t.Errorf("%q: %v", s, err)
		}
	}
	if err := refusal(api.Node{K: api.NdNil}); !errors.Is(err, api.ErrTree) {
		t.Error(err)
	}
}

// P9.1: two modules of one name, at the second one's place.
func TestModulesTwice(t *testing.T) {
	wantTree(t, tree(t, "module a. module a."), 2, api.ErrTwice)
	wantTree(t, tree(t, "module a. f() -> 1. module a."), 6, api.ErrTwice)
	wantTree(t, tree(t, "module a. module b. f() -> 1. module c. module a."), 8, api.ErrTwice)
	wantRefused(t, "module a. module b. module a. module b. module a.", api.ErrTwice, "a", 1)
	wantRefused(t, "module a. module b. module c. module b. module a.", api.ErrTwice, "b", 1)
	wantRefused(t, "module a. module b. module b. module a.", api.ErrTwice, "b", 1)
	wantRefused(t, "module ab. module b. module a. module a. module ab.", api.ErrTwice, "a", 1)
	wantLet(t, "module f. f() -> f. module a. module b. a() -> b. module aa. module a1. module a_.")
}

// P9.1: two functions of one name and arity in a module, at the second one's place.
func TestFunctionsTwice(t *testing.T) {
	wantTree(t, tree(t, "module m. f() -> 1. f() -> 2."), 6, api.ErrTwice)
	wantTree(t, tree(t, "module m. module n. f() -> 1. g(X) -> X. f() -> 2."), 12, api.ErrTwice)
	for s, nth := range map[string]int{"f(X) -> X. f(Y) -> Y.": 1, "f(X) -> X. f() -> 1. f(1) -> 2.": 2, "f(1) -> 1; f(2) -> 2. g(X) -> 1. f(Y, Z) -> 2. f(_) -> 1.": 2} {
		wantRefused(t, "module m. "+s, api.ErrTwice, "f", nth)
		wantRefused(t, "module n. f() -> 1. f(X) -> X. module m. "+s, api.ErrTwice, "f", nth+2)
		// The last one in a module of its own is none too many.
		wantLet(t, "module m. "+s[:strings.LastIndex(s, " f(")]+" module n."+s[strings.LastIndex(s, " f("):])
	}
	wantRefused(t, "module m. f() -> 1. g() -> 1. g() -> 1. f() -> 1.", api.ErrTwice, "g", 1)
	wantRefused(t, "module m. f() -> 1. g() -> 1. f() -> 1. g() -> 1. f() -> 1.", api.ErrTwice, "f", 1)
	wantRefused(t, "module m. f() -> 1. module n. f() -> 1. g() -> 1. f() -> 1. module o. f() -> 1. f() -> 1.", api.ErrTwice, "f", 2)
	wantLet(t, "module m. f() -> 1. f(_) -> 1. f(_, _) -> 1. ff() -> 1. m() -> 1. module n. f() -> 1. f(_) -> 1. m() -> 1.")
}

// P9.1: a function of a built-in's name and arity, at it; its name with another arity is any function's.
func TestBuiltTwice(t *testing.T) {
	wantTree(t, tree(t, "module m. f() -> 1. self() -> 1."), 6, api.ErrTwice)
	for _, b := range builtIns() {
		for arity := range api.MaxArity + 1 {
			s := "module m. g() -> 1. " + b.T + "(" + strings.TrimSuffix(strings.Repeat("_, ", arity), ", ") + ") -> 1."
			if slices.Contains(builtIns(), api.Fn{T: b.T, N: arity}) {
				wantRefused(t, s, api.ErrTwice, b.T, 0)
				wantRefused(t, s+" module n. hd(X) -> X. tl(X) -> X.", api.ErrTwice, b.T, 0)
			} else {
				wantLet(t, s)
				wantLet(t, s+" h(X) -> "+b.T+"("+strings.TrimSuffix(strings.Repeat("X, ", arity), ", ")+").")
			}
		}
	}
	wantRefused(t, "module m. f() -> g(). hd(X) -> X.", api.ErrCall, "g", 0)
	wantRefused(t, "module m. hd(X) -> X. f() -> g().", api.ErrTwice, "hd", 0)
	wantRefused(t, "module m. tl(X) -> h(). hd(X) -> X. f() -> g().", api.ErrTwice, "tl", 0)
}

// P9.1: calls, and funs, of functions that are there and that are not.
func TestCalls(t *testing.T) {
	wantTree(t, tree(t, "module m. f() -> 1, {g()}."), 7, api.ErrCall)
	with := "module m. f() -> 1. f(_, _) -> 2. g(_) -> 3. module n. h() -> 1. i(X) -> "
	for _, s := range []string{
		"f()", "f(X)", "g(X)", "h(X)", "i()", "i(X, X)", "m()", "n()", "x()", "ii(X)", "f(here)", "g(h())",
		"self(X)", "hd()", "hd(X, X)", "exit()", "exit(X, X, X)", "call(X, X)", "call(X, X, X, X)", "now(X)", "is_atom(X)", "spawn_link(X)", "abs(X)",
		"m:f(X)", "m:f(X, X, X)", "m:g()", "m:h()", "n:f()", "n:h(X)", "n:i()", "o:f()", "f:f()", "m:m()", "m:self()", "n:hd(X)", "n:x()", "n:i(X, n:h())",
		"fun m:f/1", "fun m:f/3", "fun m:g/0", "fun m:h/0", "fun n:f/0", "fun n:h/1", "fun o:f/0", "fun h:n/0", "fun m:self/0", "fun n:exit/1", "fun n:i/8",
	} {
		for _, in := range []string{"$", "{h(), $}", "[m:f()|$]", "(i(X) =:= $)", "(Y = $)", "case $ of _ -> h() end", "case X of 1 -> h(); 2 -> i(X), $ end", "try $ catch _:_ -> 1 end", "try h() catch _:_ -> $ end", "receive _ -> $ end", "receive after $ -> 1 end", "receive after 1 -> $ end", "i($)", "m:f(1, $)", "X(X, $)", "hd($)", "{$, q(), p:q(), fun q:q/0}"} {
			wantHere(t, with+strings.ReplaceAll(in, "$", "{here, "+s+"}")+".", api.ErrCall)
		}
	}
	for _, s := range []string{"h()", "i(X)", "m:f()", "m:f(1, 2)", "m:g(X)", "n:h()", "n:i(i(m:g(X)))", "fun m:f/0", "fun m:f/2", "fun m:g/1", "fun n:h/0", "fun n:i/1", "hd(h())", "exit(X)", "exit(X, X)", "o:a()", "fun o:a/0"} {
		wantLet(t, with+s+". module o. a() -> m:f().")
	}
	wantRefused(t, "module m. f() -> X(), g(). g(_) -> 1.", api.ErrBind, "X", 0)
	wantRefused(t, "module m. f(X) -> X(), g(). g(_) -> f(). f() -> h().", api.ErrCall, "g", 0)
	wantRefused(t, "module m. f() -> g(h()). module n. g(_) -> 1. h() -> 1.", api.ErrCall, "g", 0)
}

// wantErrTree holds that each call takes a tree for none.
func wantErrTree(t *testing.T, what string, n api.Node) {
	t.Helper()
	for range 2 {
		if at, e := Check(n); at != 0 || e != api.ErrTree {
			t.Errorf("%s: %v at %d", what, e, at)
		}
		if f, ok := Find(n, "m", "f", 0); ok || !ast.Same(f, api.Node{}) || f.L != nil {
			t.Errorf("%s: Find: %v", what, ok)
		}
		if l := Functions(n); len(l) != 0 {
			t.Errorf("%s: Functions: %d", what, len(l))
		}
	}
}

// shared is a tree of so many levels, each of which has the one below twice.
func shared(levels int) api.Node {
	n := api.Node{K: api.NdTuple}
	for range levels {
		n = api.Node{K: api.NdTuple, L: []api.Node{n, n}}
	}
	return n
}

// P9.1, P9.2: trees that may not be.
func TestNoTrees(t *testing.T) {
	f := tree(t, body("1"))
	self := api.Node{K: api.NdMods, L: []api.Node{{K: api.NdMod, S: "m", L: []api.Node{{}}}}}
	self.L[0].L[0] = self
	endless := clone(f)
	endless.L[0].L[0].L[0].L[1] = api.Node{K: api.NdTuple, L: []api.Node{{}}}
	endless.L[0].L[0].L[0].L[1].L[0] = endless.L[0].L[0].L[0].L[1]
	for what, n := range map[string]api.Node{"a module": f.L[0], "a function": f.L[0].L[0], "a clause": f.L[0].L[0].L[0], "an expression": {K: api.NdInt, N: 1}, "nothing": {K: api.NdNil}, "itself": self, "endless": endless, "a name beside": {K: api.NdMods, S: "m"}, "a number beside": {K: api.NdMods, N: 1}, "kind -1": {K: -1}, "kind 127": {K: 127}, "kind -128": {K: -128}, "shared": shared(60)} {
		wantErrTree(t, what, n)
	}
	for what, change := range map[string]func(m *api.Node){
		"no name":        func(m *api.Node) { m.S = "" },
		"a word":         func(m *api.Node) { m.S = "end" },
		"a module in it": func(m *api.Node) { m.L = append(m.L, f.L[0]) },
		"arity":          func(m *api.Node) { m.L[0].N = 1 },
		"arity below 0":  func(m *api.Node) { m.L[0].N, m.L[0].L[0].N = -1, -1 },
		"no clause":      func(m *api.Node) { m.L[0].L = nil },
		"no guard":       func(m *api.Node) { m.L[0].L[0].L = m.L[0].L[0].L[1:] },
		"no body":        func(m *api.Node) { m.L[0].L[0].L = m.L[0].L[0].L[:1] },
		"a great number": func(m *api.Node) { m.L[0].L[0].L[1].N = api.MaxInt + 1 },
		"nine":           func(m *api.Node) { *m = many(9) },
		"great":          func(m *api.Node) { m.L[0].L[0].L[1] = api.Node{K: api.NdTuple, L: make([]api.Node, api.MaxNodes)} },
		"shared":         func(m *api.Node) { m.L[0].L[0].L[1] = shared(50) },
		"deep":           func(m *api.Node) { m.L[0].L[0].L[1] = nest(61) },
	} {
		n := clone(f)
		change(&n.L[0])
		wantErrTree(t, what, n)
		wantErrTree(t, what, api.Node{K: api.NdMods, L: []api.Node{f.L[0], f.L[0], n.L[0]}})
	}
	deep := clone(f)
	deep.L[0].L[0].L[0].L[1] = nest(60)
	wantTree(t, deep, 0, api.OK)
	wantTree(t, api.Node{K: api.NdMods, L: []api.Node{many(8)}}, 0, api.OK)
}

// many is a module of a function f of so many arguments.
func many(n int) api.Node {
	c := api.Node{K: api.NdClause, N: n}
	for range n {
		c.L = append(c.L, api.Node{K: api.NdVar, S: "_"})
	}
	c.L = append(c.L, api.Node{K: api.NdGuard}, api.Node{K: api.NdNil})
	return api.Node{K: api.NdMod, S: "m", L: []api.Node{{K: api.NdFun, S: "f", N: n, L: []api.Node{c}}}}
}

// nest is a tuple that is so deep.
func nest(deep int) api.Node {
	n := api.Node{K: api.NdTuple}
	for range deep - 1 {
		n = api.Node{K: api.NdTuple, L: []api.Node{n}}
	}
	return n
}

// builtIns are the chapter's.
func builtIns() []api.Fn {
	var l []api.Fn
	for _, s := range strings.Split("self/0, spawn_link/3, link/1, monitor/1, exit/1, exit/2, error/1, throw/1, trap_exit/1, register/1, whereis/1, make_ref/0, element/2, length/1, hd/1, tl/1, tuple_size/1, send/2, out/1, now/0, call/3, cast/2, start_child/2, terminate_child/2, restart_child/2, delete_child/2, which_children/1", ", ") {
		name, arity, _ := strings.Cut(s, "/")
		n, _ := strconv.Atoi(arity)
		l = append(l, api.Fn{T: name, N: n})
	}
	return l
}

// P9.2: the built-ins, each at its arity, and at one more and one less.
func TestBuilt(t *testing.T) {
	l := builtIns()
	if len(l) != 27 {
		t.Fatal(len(l))
	}
	for _, b := range l {
		for _, arity := range []int{b.N, b.N - 1, b.N + 1, -1, -b.N - 1, 0, 1, 2, 3, 4, 8, 9, 256, 1 << 32, -1 << 62, b.N + 256, b.N + 1<<32} {
			if want := slices.Contains(l, api.Fn{T: b.T, N: arity}); Built(b.T, arity) != want {
				t.Errorf("%s/%d: %v", b.T, arity, !want)
			}
		}
		for _, s := range []string{b.T + "s", b.T[1:], b.T[:len(b.T)-1], " " + b.T, b.T + "\x00", strings.ToUpper(b.T), strings.ToUpper(b.T[:1]) + b.T[1:], strings.Repeat(b.T, 1000)} {
			if Built(s, b.N) {
				t.Errorf("%.40q/%d is built in", s, b.N)
			}
		}
	}
	for _, s := range []string{"", "f", "is_atom", "is_list", "spawn", "put", "get", "unlink", "abs", "atom", "setelement", "size", "node", "X", "_", "div", "end", "\xff"} {
		for arity := -1; arity < 5; arity++ {
			if Built(s, arity) {
				t.Errorf("%q/%d is built in", s, arity)
			}
		}
	}
}

// P9.2: the first function of that module, name and arity.
func TestFind(t *testing.T) {
	n := tree(t, "module m. f() -> 1. f(X) -> 2; f(_) -> 3. g() -> 4. f() -> 5. module n. f() -> 6. module m. f() -> 7. h() -> 8. self() -> X, q().")
	for _, c := range []struct {
		module, name string
		arity        int
		want         api.Node
	}{
		{"m", "f", 0, n.L[0].L[0]}, {"m", "f", 1, n.L[0].L[1]}, {"m", "g", 0, n.L[0].L[2]}, {"n", "f", 0, n.L[1].L[0]}, {"m", "h", 0, n.L[2].L[1]}, {"m", "self", 0, n.L[2].L[2]},
	} {
		for range 2 {
			if f, ok := Find(n, c.module, c.name, c.arity); !ok || !ast.Same(f, c.want) {
				t.Errorf("%s:%s/%d: %v %v", c.module, c.name, c.arity, f, ok)
			}
		}
	}
	for _, c := range []struct {
		module, name string
		arity        int
	}{
		{"m", "f", 2}, {"m", "f", -1}, {"m", "f", 256}, {"m", "f", 1 << 32}, {"m", "f", 8}, {"m", "f", 9}, {"n", "f", 1}, {"n", "g", 0}, {"n", "h", 0}, {"o", "f", 0}, {"", "f", 0}, {"m", "", 0}, {"", "", 0}, {"f", "m", 0}, {"mf", "", 0}, {"m", "q", 0}, {"m", "hd", 1}, {"m", "ff", 0}, {"M", "f", 0}, {"m", "F", 0}, {"m ", "f", 0},
	} {
		if f, ok := Find(n, c.module, c.name, c.arity); ok || !ast.Same(f, api.Node{}) {
			t.Errorf("%s:%s/%d: %v %v", c.module, c.name, c.arity, f, ok)
		}
	}
	for _, s := range []string{"", "module m."} {
		if _, ok := Find(tree(t, s), "m", "f", 0); ok {
			t.Errorf("found in %q", s)
		}
	}
}

// P9.2: all functions, in order, also of trees that the rules refuse.
func TestFunctions(t *testing.T) {
	for s, want := range map[string][]api.Fn{
		"":                    nil,
		"module m. module n.": nil,
		body("1"):             {{S: "m", T: "f"}},
		"module n. module m. g(X) -> X. f(_, _, _, _, _, _, _, _) -> 1. g() -> 1; g() -> 2. module a. g(1) -> 1.": {{S: "m", T: "g", N: 1}, {S: "m", T: "f", N: 8}, {S: "m", T: "g"}, {S: "a", T: "g", N: 1}},
		"module m. f() -> X, q(). f() -> 1. module m. f() -> 1. self() -> fun a:b/7.":                             {{S: "m", T: "f"}, {S: "m", T: "f"}, {S: "m", T: "f"}, {S: "m", T: "self"}},
	} {
		n := tree(t, s)
		l := Functions(n)
		if !slices.Equal(l, want) {
			t.Errorf("%q: %v", s, l)
		}
		for i := range l {
			l[i].S = "x"
		}
		if !slices.Equal(Functions(n), want) {
			t.Errorf("%q: told otherwise behind a change of the answer", s)
		}
	}
}

// P9.3: one more function that is let be by itself, of a new name, behind those of any module.
func TestOneMore(t *testing.T) {
	for _, s := range lets {
		for _, f := range []string{"new() -> 1.", "new(X) -> new(X), hd(X).", "new(X, [_|Y]) when (X < Y) -> case X of {Z} -> Z; Z -> Y end; new(1, X) -> self(), X."} {
			n := tree(t, s)
			more := tree(t, "module m. "+f)
			wantTree(t, more, 0, api.OK)
			for i := range n.L {
				with := clone(n)
				with.L[i].L = append(with.L[i].L, more.L[0].L[0])
				wantTree(t, with, 0, api.OK)
			}
		}
	}
}
