package parse

import (
	"strings"
	"testing"

	"pleach/api"
	"pleach/ast"
)

func node(k int8, l ...api.Node) api.Node             { return api.Node{K: k, L: l} }
func called(k int8, s string, l ...api.Node) api.Node { return api.Node{K: k, S: s, L: l} }
func v(s string) api.Node                             { return called(api.NdVar, s) }
func at(s string) api.Node                            { return called(api.NdAtom, s) }
func num(n int) api.Node                              { return api.Node{K: api.NdInt, N: n} }
func op(s string, a, b api.Node) api.Node             { return called(api.NdOp, s, a, b) }
func asked(s string, p api.Node) api.Node             { return called(api.NdTest, s, p) }
func tuple(l ...api.Node) api.Node                    { return node(api.NdTuple, l...) }
func cons(a, b api.Node) api.Node                     { return node(api.NdCons, a, b) }
func match(a, b api.Node) api.Node                    { return node(api.NdMatch, a, b) }
func call(s string, l ...api.Node) api.Node           { return called(api.NdCall, s, l...) }
func apply(l ...api.Node) api.Node                    { return node(api.NdApply, l...) }
func choice(l ...api.Node) api.Node                   { return node(api.NdCase, l...) }
func try(l ...api.Node) api.Node                      { return node(api.NdTry, l...) }
func after(l ...api.Node) api.Node                    { return node(api.NdAfter, l...) }
func grd(l ...api.Node) api.Node                      { return node(api.NdGuard, l...) }
func mods(l ...api.Node) api.Node                     { return node(api.NdMods, l...) }
func mod(s string, l ...api.Node) api.Node            { return called(api.NdMod, s, l...) }

func remote(s, t string, l ...api.Node) api.Node {
	return api.Node{K: api.NdRemote, S: s, T: t, L: l}
}
func ref(s, t string, n int) api.Node            { return api.Node{K: api.NdRef, S: s, T: t, N: n} }
func recv(n int, l ...api.Node) api.Node         { return api.Node{K: api.NdRecv, N: n, L: l} }
func clause(n int, l ...api.Node) api.Node       { return api.Node{K: api.NdClause, N: n, L: l} }
func fn(s string, n int, l ...api.Node) api.Node { return api.Node{K: api.NdFun, S: s, N: n, L: l} }

var null = node(api.NdNil)

// one is the function f without arguments that has just that expression.
func one(e api.Node) api.Node { return fn("f", 0, clause(0, grd(), e)) }

// empty tells whether it is the tree that stands beside a fault.
func empty(n api.Node) bool { return ast.Same(n, api.Node{}) && n.L == nil }

// want holds what a call answered against a tree.
func want(t *testing.T, s string, n api.Node, f api.Flaw, tree api.Node) {
	t.Helper()
	if f != (api.Flaw{}) || !ast.Same(n, tree) {
		t.Errorf("%.200q: %v %v, not %v", s, f, n, tree)
	}
}

// wantMods holds the tree of modules, by Mods and by Text, without a configuration and with one.
func wantMods(t *testing.T, s string, tree api.Node) {
	t.Helper()
	for range 2 {
		n, f := Mods(s)
		want(t, s, n, f, tree)
	}
	n, config, f := Text(s)
	want(t, s, n, f, tree)
	if config != -1 {
		t.Errorf("%.200q: config %d", s, config)
	}
	n, config, f = Text(s + "\nconfig #")
	want(t, s, n, f, tree)
	if config != len(s)+7 {
		t.Errorf("%.200q: config %d, not %d", s, config, len(s)+7)
	}
}

// wantExpr holds the tree of an expression, by itself and wherever one may stand.
func wantExpr(t *testing.T, s string, tree api.Node) {
	t.Helper()
	for range 2 {
		n, f := Expr(s)
		want(t, s, n, f, tree)
	}
	for text, n := range map[string]api.Node{
		"{" + s + "}": tuple(tree), "[a|" + s + "]": cons(at("a"), tree), "(X = " + s + ")": match(v("X"), tree),
		"(" + s + " + " + s + ")": op("+", tree, tree), "g(1," + s + ")": call("g", num(1), tree), "m:g(" + s + ")": remote("m", "g", tree),
		"X(" + s + ")": apply(v("X"), tree), "case " + s + " of _ -> " + s + ", " + s + " end": choice(tree, clause(1, v("_"), grd(), tree, tree)),
		"try " + s + " catch _:_ -> " + s + " end":                          try(tree, clause(2, v("_"), v("_"), grd(), tree)),
		"receive _ -> " + s + " after " + s + " -> " + s + "," + s + " end": recv(1, clause(1, v("_"), grd(), tree), after(tree, tree, tree)),
	} {
		got, f := Expr(text)
		want(t, text, got, f, n)
	}
	wantMods(t, "module m. f() -> "+s+".", mods(mod("m", one(tree))))
}

// wantPattern holds the tree of a pattern, by itself and wherever one may stand.
func wantPattern(t *testing.T, s string, tree api.Node) {
	t.Helper()
	for range 2 {
		n, f := Pattern(s)
		want(t, s, n, f, tree)
	}
	for text, n := range map[string]api.Node{
		"{a, " + s + "}": tuple(at("a"), tree), "[" + s + "|" + s + "]": cons(tree, tree),
	} {
		got, f := Pattern(text)
		want(t, text, got, f, n)
	}
	for text, n := range map[string]api.Node{
		"(" + s + " = 1)":                                        match(tree, num(1)),
		"case 1 of " + s + " -> 2 end":                           choice(num(1), clause(1, tree, grd(), num(2))),
		"receive " + s + " -> 2 end":                             recv(0, clause(1, tree, grd(), num(2))),
		"try 1 catch throw:" + s + " -> 2; X:" + s + " -> 3 end": try(num(1), clause(2, at("throw"), tree, grd(), num(2)), clause(2, v("X"), tree, grd(), num(3))),
	} {
		got, f := Expr(text)
		want(t, text, got, f, n)
	}
	wantMods(t, "module m. f("+s+", "+s+") -> 1.", mods(mod("m", fn("f", 2, clause(2, tree, tree, grd(), num(1))))))
	wantExpr(t, s, tree)
}

// wantTest holds the tree of a test, wherever one may stand.
func wantTest(t *testing.T, s string, tree api.Node) {
	t.Helper()
	two := grd(tree, asked("is_atom", v("Y")))
	for text, n := range map[string]api.Node{
		"case X of Y when " + s + " -> 1 end":           choice(v("X"), clause(1, v("Y"), grd(tree), num(1))),
		"receive Y when " + s + ", is_atom(Y) -> 1 end": recv(0, clause(1, v("Y"), two, num(1))),
		"try X catch Y:Z when " + s + " -> 1 end":       try(v("X"), clause(2, v("Y"), v("Z"), grd(tree), num(1))),
		"case X of Y when " + s + "," + s + " -> 1 end": choice(v("X"), clause(1, v("Y"), grd(tree, tree), num(1))),
	} {
		got, f := Expr(text)
		want(t, text, got, f, n)
	}
	wantMods(t, "module m. f(Y) when "+s+", is_atom(Y) -> 1.", mods(mod("m", fn("f", 1, clause(1, v("Y"), two, num(1))))))
}

// wantGuarded holds the tree of a guard expression, wherever one may stand.
func wantGuarded(t *testing.T, s string, tree api.Node) {
	t.Helper()
	wantTest(t, "is_list("+s+")", asked("is_list", tree))
	wantTest(t, "("+s+" < "+s+")", op("<", tree, tree))
	wantTest(t, "is_pid(("+s+" * [1|{"+s+"}]))", asked("is_pid", op("*", tree, cons(num(1), tuple(tree)))))
}

// P8.1: the examples of the chapter.
func TestExamples(t *testing.T) {
	wantMods(t, "module a. f(X) when (X > 1) -> X.", mods(mod("a", fn("f", 1, clause(1, v("X"), grd(op(">", v("X"), num(1))), v("X"))))))
	for range 2 {
		if n, f := Mods("module a. f( -> 1."); !empty(n) || f != (api.Flaw{E: api.ErrParse, At: 13}) {
			t.Error(n, f)
		}
	}
}

// P8.1: what patterns, guard expressions and expressions have in common.
func TestValues(t *testing.T) {
	long := strings.Repeat("q", 31)
	for s, n := range map[string]api.Node{
		"X": v("X"), "_": v("_"), "_x": v("_x"), "Zx_1": v("Zx_1"), "Z" + long: v("Z" + long),
		"a": at("a"), "z" + long: at("z" + long), "ends": at("ends"), "error": at("error"), "is_atom": at("is_atom"), "infinity": at("infinity"),
		"0": num(0), "7": num(7), "007": num(7), "-0": num(0), "-7": num(-7), "- 7": num(-7), "-\n%-\n07": num(-7),
		"576460752303423487": num(api.MaxInt), "-576460752303423487": num(-api.MaxInt), "-576460752303423488": num(-api.MaxInt - 1),
		"[]": null, "[ ]": null, "[a|b]": cons(at("a"), at("b")), "[[]|[]]": cons(null, null), "[1|[-2|[X|Y]]]": cons(num(1), cons(num(-2), cons(v("X"), v("Y")))),
		"[{}|{a}]": cons(tuple(), tuple(at("a"))), "[[[a|b]|c]|d]": cons(cons(cons(at("a"), at("b")), at("c")), at("d")),
		"{}": tuple(), "{ }": tuple(), "{a}": tuple(at("a")), "{a,b}": tuple(at("a"), at("b")), "{{},{{}},-1}": tuple(tuple(), tuple(tuple()), num(-1)),
		"{1,2,3,4,5,6,7,8,9,10}": tuple(num(1), num(2), num(3), num(4), num(5), num(6), num(7), num(8), num(9), num(10)),
		"{_, [_|_]}":             tuple(v("_"), cons(v("_"), v("_"))), "{[],[]}": tuple(null, null),
	} {
		wantPattern(t, s, n)
		wantGuarded(t, s, n)
	}
}

// P8.1: operations and matches.
func TestOperations(t *testing.T) {
	for _, s := range strings.Fields("+ - * div rem =:= =/= < =< > >=") {
		wantExpr(t, "(X "+s+" 1)", op(s, v("X"), num(1)))
		wantExpr(t, "(-1 "+s+" -2)", op(s, num(-1), num(-2)))
		wantExpr(t, "((a "+s+" {}) "+s+" (b "+s+" f()))", op(s, op(s, at("a"), tuple()), op(s, at("b"), call("f"))))
		wantExpr(t, "((X = 1) "+s+" (Y = 2))", op(s, match(v("X"), num(1)), match(v("Y"), num(2))))
	}
	for _, s := range strings.Fields("+ - *") {
		wantGuarded(t, "(X "+s+" 1)", op(s, v("X"), num(1)))
		wantGuarded(t, "((-1 "+s+" -2) "+s+" (a "+s+" {(X + Y)}))", op(s, op(s, num(-1), num(-2)), op(s, at("a"), tuple(op("+", v("X"), v("Y"))))))
	}
	wantExpr(t, "(X-1)", op("-", v("X"), num(1)))
	wantExpr(t, "(X--1)", op("-", v("X"), num(-1)))
	wantExpr(t, "(X=Y)", match(v("X"), v("Y")))
	wantExpr(t, "(X=-1)", match(v("X"), num(-1)))
	wantExpr(t, "({a, [X|_]} = (Y = g(Z)))", match(tuple(at("a"), cons(v("X"), v("_"))), match(v("Y"), call("g", v("Z")))))
	wantExpr(t, "(a = b)", match(at("a"), at("b")))
	wantExpr(t, "([] = -576460752303423488)", match(null, num(-api.MaxInt-1)))
	wantExpr(t, "(X = case X of _ -> (1 = 2) end)", match(v("X"), choice(v("X"), clause(1, v("_"), grd(), match(num(1), num(2))))))
}

// P8.1: tests and guards.
func TestTests(t *testing.T) {
	for _, s := range strings.Fields("is_atom is_integer is_pid is_reference is_tuple is_list is_function") {
		wantTest(t, s+"(X)", asked(s, v("X")))
		wantTest(t, s+" ( ( 1 - is_atom ) )", asked(s, op("-", num(1), at("is_atom"))))
	}
	for _, s := range strings.Fields("=:= =/= < =< > >=") {
		wantTest(t, "(X "+s+" -1)", op(s, v("X"), num(-1)))
		wantTest(t, "((X + 1) "+s+" (2 * {Y, a}))", op(s, op("+", v("X"), num(1)), op("*", num(2), tuple(v("Y"), at("a")))))
	}
}

// P8.1: calls and funs.
func TestCalls(t *testing.T) {
	eight, args := "1, X, {}, [], a, b:c(), -1, f()", []api.Node{num(1), v("X"), tuple(), null, at("a"), remote("b", "c"), num(-1), call("f")}
	for s, n := range map[string]api.Node{
		"g()": call("g"), "g ( )": call("g"), "g(1)": call("g", num(1)), "g(g(1), g())": call("g", call("g", num(1)), call("g")), "g(" + eight + ")": call("g", args...),
		"m:g()": remote("m", "g"), "m : g (X)": remote("m", "g", v("X")), "m:m(a, m:g())": remote("m", "m", at("a"), remote("m", "g")), "m:g(" + eight + ")": remote("m", "g", args...),
		"X()": apply(v("X")), "X (1)": apply(v("X"), num(1)), "_()": apply(v("_")), "X(X, Y(Z()))": apply(v("X"), v("X"), apply(v("Y"), apply(v("Z")))), "X(" + eight + ")": apply(append([]api.Node{v("X")}, args...)...),
		"fun m:g/0": ref("m", "g", 0), "fun m:g/8": ref("m", "g", 8), "fun a : b / 003": ref("a", "b", 3), "is_atom(X)": call("is_atom", v("X")), "error(exit)": call("error", at("exit")), "throw:error(1)": remote("throw", "error", num(1)),
	} {
		wantExpr(t, s, n)
	}
}

// P8.1: case, try and receive.
func TestClauses(t *testing.T) {
	big, isA := op(">", v("Y"), num(2)), asked("is_atom", v("Y"))
	for s, n := range map[string]api.Node{
		"case X of a -> b end": choice(v("X"), clause(1, at("a"), grd(), at("b"))),
		"case X of a -> b; Y when (Y > 2), is_atom(Y) -> c, d end":                                                     choice(v("X"), clause(1, at("a"), grd(), at("b")), clause(1, v("Y"), grd(big, isA), at("c"), at("d"))),
		"case case 1 of 2 -> 3 end of 4 -> case 5 of 6 -> 7; 8 -> 9 end; 10 -> 11 end":                                 choice(choice(num(1), clause(1, num(2), grd(), num(3))), clause(1, num(4), grd(), choice(num(5), clause(1, num(6), grd(), num(7)), clause(1, num(8), grd(), num(9)))), clause(1, num(10), grd(), num(11))),
		"try g() catch error:X -> X end":                                                                               try(call("g"), clause(2, at("error"), v("X"), grd(), v("X"))),
		"try g catch exit:{a, _} when (Y > 2) -> 1, 2; throw:[] -> a; C:Y when (Y > 2), is_atom(Y) -> C; _:_ -> b end": try(at("g"), clause(2, at("exit"), tuple(at("a"), v("_")), grd(big), num(1), num(2)), clause(2, at("throw"), null, grd(), at("a")), clause(2, v("C"), v("Y"), grd(big, isA), v("C")), clause(2, v("_"), v("_"), grd(), at("b"))),
		"try try a catch exit:b -> c end catch D:E -> try f catch throw:g -> h end end":                                try(try(at("a"), clause(2, at("exit"), at("b"), grd(), at("c"))), clause(2, v("D"), v("E"), grd(), try(at("f"), clause(2, at("throw"), at("g"), grd(), at("h"))))),
		"receive a -> b end": recv(0, clause(1, at("a"), grd(), at("b"))),
		"receive a -> b; Y when is_atom(Y) -> c, d; _ -> e end":            recv(0, clause(1, at("a"), grd(), at("b")), clause(1, v("Y"), grd(isA), at("c"), at("d")), clause(1, v("_"), grd(), at("e"))),
		"receive after 5 -> a end":                                         recv(1, after(num(5), at("a"))),
		"receive after f(X) -> a, b, c end":                                recv(1, after(call("f", v("X")), at("a"), at("b"), at("c"))),
		"receive X -> X after infinity -> c end":                           recv(1, clause(1, v("X"), grd(), v("X")), after(at("infinity"), at("c"))),
		"receive a -> b; c -> d, e after (T + 1) -> 1, 2 end":              recv(1, clause(1, at("a"), grd(), at("b")), clause(1, at("c"), grd(), at("d"), at("e")), after(op("+", v("T"), num(1)), num(1), num(2))),
		"receive a -> receive after 1 -> 2 end after 3 -> 4 end":           recv(1, clause(1, at("a"), grd(), recv(1, after(num(1), num(2)))), after(num(3), num(4))),
		"receive after receive b -> c end -> receive after 0 -> d end end": recv(1, after(recv(0, clause(1, at("b"), grd(), at("c"))), recv(1, after(num(0), at("d"))))),
	} {
		wantExpr(t, s, n)
	}
}

// P8.1: modules and functions.
func TestModules(t *testing.T) {
	f := one(num(1))
	big := op(">", v("N"), num(0))
	for s, n := range map[string]api.Node{
		"": mods(), " % module\n\t": mods(), "module a.": mods(mod("a")), "module a. module b.module a .": mods(mod("a"), mod("b"), mod("a")),
		"module a. f() -> 1.":                                         mods(mod("a", f)),
		"module a.f()->1.f()->1.module b.module c.f()->1.":            mods(mod("a", f, f), mod("b"), mod("c", f)),
		"module a. f() -> 1. f(X) -> X, X. g(1, 2) -> 3.":             mods(mod("a", f, fn("f", 1, clause(1, v("X"), grd(), v("X"), v("X"))), fn("g", 2, clause(2, num(1), num(2), grd(), num(3))))),
		"module a. f() -> 1; f() -> 2; f() -> 3.":                     mods(mod("a", fn("f", 0, clause(0, grd(), num(1)), clause(0, grd(), num(2)), clause(0, grd(), num(3))))),
		"module a. f(0) -> 1; f(N) when (N > 0), is_atom(N) -> g, N.": mods(mod("a", fn("f", 1, clause(1, num(0), grd(), num(1)), clause(1, v("N"), grd(big, asked("is_atom", v("N"))), at("g"), v("N"))))),
		"module a. f(A,B,C,D,E,F,G,H) when (N > 0) -> 1.":             mods(mod("a", fn("f", 8, clause(8, v("A"), v("B"), v("C"), v("D"), v("E"), v("F"), v("G"), v("H"), grd(big), num(1))))),
		"module f. f() -> f; f() -> f. f(f) -> f.":                    mods(mod("f", fn("f", 0, clause(0, grd(), at("f")), clause(0, grd(), at("f"))), fn("f", 1, clause(1, at("f"), grd(), at("f"))))),
		"module a. is_atom(X) -> is_atom(X). error() -> 1.":           mods(mod("a", fn("is_atom", 1, clause(1, v("X"), grd(), call("is_atom", v("X")))), fn("error", 0, clause(0, grd(), num(1))))),
	} {
		wantMods(t, s, n)
		wantMods(t, s+" % .\n ", n)
	}
}

// P8.2: the word config, where it stands and where it does not.
func TestConfig(t *testing.T) {
	a := mods(mod("a", one(num(1))))
	for _, c := range []struct {
		s      string
		n      api.Node
		config int
	}{
		{"", mods(), -1}, {" %config\n", mods(), -1}, {"config", mods(), 6}, {"config config", mods(), 6}, {"\n config{a}.", mods(), 8}, {"config x # y", mods(), 6},
		{"% config\nconfig", mods(), 15}, {"config.", mods(), 6}, {"config module", mods(), 6}, {"config#", mods(), 6}, {"config " + strings.Repeat("a", 33), mods(), 6}, {"config 9999999999999999999999", mods(), 6}, {"config\n\n ", mods(), 6},
		{"module a.", mods(mod("a")), -1}, {"module a.config", mods(mod("a")), 15}, {"module a. config ((((", mods(mod("a")), 16}, {"module configs. config", mods(mod("configs")), 22},
		{"module a. f() -> 1.", a, -1}, {"module a. f() -> 1. config {a}.", a, 26}, {"module a. f() -> 1.%\n\tconfig\x00", a, 28}, {"module a. f() -> 1. config module b.", a, 26},
		{"config " + strings.Repeat("{", 3000), mods(), 6}, {"config" + strings.Repeat(" ", api.MaxText-6), mods(), 6}, {strings.Repeat(" ", api.MaxText-6) + "config", mods(), api.MaxText},
	} {
		for range 2 {
			n, config, f := Text(c.s)
			want(t, c.s, n, f, c.n)
			if config != c.config {
				t.Errorf("%.60q: config %d, not %d", c.s, config, c.config)
			}
		}
	}
}

// P8.3: texts that are read, written and read again.
func TestAgain(t *testing.T) {
	for _, s := range []string{
		"", "module a.", "module a. module b. f() -> - 0.", "module a.f(X,{_,[Y|-007]})when(X>Y),is_pid(X)->(Z=X),fun a:f/02;f(_,_)->case m:g(Z())of[]->try 1 catch C:_->C end;_->receive after(1 rem 2)->{},g(1,2)end end.",
	} {
		n, f := Mods(s)
		if f.E != api.OK || ast.Check(n) != api.OK {
			t.Errorf("%q: %v", s, f)
			continue
		}
		wantMods(t, ast.Text(n), n)
	}
}
