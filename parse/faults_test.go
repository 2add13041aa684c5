package parse

import (
	"strings"
	"testing"

	"pleach/api"
)

// wantFault holds a fault, and that nothing else is told beside it.
func wantFault(t *testing.T, what, s string, n api.Node, f, fault api.Flaw) {
	t.Helper()
	if f != fault || !empty(n) {
		t.Errorf("%s of %.60q, %d bytes: %v, not %v; the empty tree: %v", what, s, len(s), f, fault, empty(n))
	}
}

// modsFault holds a fault of modules, by Mods and by Text.
func modsFault(t *testing.T, s string, e api.Errno, at int) {
	t.Helper()
	fault := api.Flaw{E: e, At: at}
	for range 2 {
		n, f := Mods(s)
		wantFault(t, "Mods", s, n, f, fault)
		n, config, f := Text(s)
		wantFault(t, "Text", s, n, f, fault)
		if config != -1 {
			t.Errorf("Text of %.200q: config %d", s, config)
		}
	}
}

// exprFault holds a fault of an expression, by itself and in a function's body; a fault at the text's length is one at whatever stands there, then.
func exprFault(t *testing.T, s string, e api.Errno, at int) {
	t.Helper()
	for range 2 {
		n, f := Expr(s)
		wantFault(t, "Expr", s, n, f, api.Flaw{E: e, At: at})
	}
	in := "module m. f() -> "
	modsFault(t, in+s, e, len(in)+at)
	modsFault(t, in+"a, "+s, e, len(in)+3+at)
	if at == len(s) {
		exprEnds(t, s, e)
		return
	}
	modsFault(t, in+s+" . config", e, len(in)+at)
	modsFault(t, in+s+" #", e, len(in)+at)
}

// exprEnds holds that a fault at the text's end is at its length, behind all blanks; that it is at the token which stands there else; and that a flaw of the scan goes ahead of it.
func exprEnds(t *testing.T, s string, e api.Errno) {
	t.Helper()
	n, f := Expr(s + " %\n ")
	wantFault(t, "Expr", s, n, f, api.Flaw{E: e, At: len(s) + 4})
	for _, b := range []string{"#", "\x00", "!", "\""} {
		n, f = Expr(s + " " + b + " a")
		wantFault(t, "Expr", s+b, n, f, api.Flaw{E: api.ErrScan, At: len(s) + 1})
	}
	for _, b := range []string{strings.Repeat("a", 33), strings.Repeat("A", 40), "576460752303423489"} {
		n, f = Expr(s + " " + b)
		wantFault(t, "Expr", s+b, n, f, api.Flaw{E: api.ErrLimit, At: len(s) + 1})
	}
	for _, b := range []string{".", "config", "module"} { // none of these stands in an expression
		n, f = Expr(s + " " + b)
		wantFault(t, "Expr", s+b, n, f, api.Flaw{E: e, At: len(s) + 1})
	}
}

// patternFault holds a fault of a pattern, by itself and in a clause's head.
func patternFault(t *testing.T, s string, e api.Errno, at int) {
	t.Helper()
	for range 2 {
		n, f := Pattern(s)
		wantFault(t, "Pattern", s, n, f, api.Flaw{E: e, At: at})
	}
	for _, in := range []string{"module m. f(", "module m. f(X, "} {
		modsFault(t, in+s, e, len(in)+at)
	}
	for _, in := range []string{"case X of ", "receive ", "try X catch _:", "case X of Y -> Z; ", "receive Y -> Z; ", "try X catch _:Y -> Z; exit:"} {
		exprFault(t, in+s, e, len(in)+at)
	}
}

// testFault holds a fault of a test, in all guards.
func testFault(t *testing.T, s string, e api.Errno, at int) {
	t.Helper()
	for _, in := range []string{"module m. f() when ", "module m. f() -> 1; f() when is_atom(a), "} {
		modsFault(t, in+s, e, len(in)+at)
	}
	for _, in := range []string{"case X of Y when ", "receive Y when (X < Y), ", "try X catch _:Y when ", "try X catch _:Y -> Z; _:Y when "} {
		exprFault(t, in+s, e, len(in)+at)
	}
}

// guardedFault holds a fault of a guard expression, in tests.
func guardedFault(t *testing.T, s string, e api.Errno, at int) {
	t.Helper()
	for _, in := range []string{"is_atom(", "(", "(X < ", "((X + ", "is_pid({X, "} {
		testFault(t, in+s, e, len(in)+at)
	}
}

// P8.1: faults of what patterns, guard expressions and expressions have in common.
func TestValueFaults(t *testing.T) {
	for _, c := range []struct {
		s  string
		at int
	}{
		{"", 0}, {"=", 0}, {"+", 0}, {"|", 0}, {":", 0}, {"/", 0}, {"*", 0}, {"<", 0}, {"div", 0}, {"when", 0}, {"of", 0}, {"module", 0}, {"config", 0}, {"catch", 0}, {".", 0},
		{"-", 1}, {"- a", 2}, {"- X", 2}, {"--1", 1}, {"-[]", 1}, {"-(1 + 2)", 1}, {"- .", 2},
		{"[", 1}, {"[a", 2}, {"[a|", 3}, {"[a|b", 4}, {"[a, b]", 2}, {"[a]", 2}, {"[|a]", 1}, {"[a||b]", 3}, {"[a|b|c]", 4}, {"[a|b, c]", 4}, {"[a|b}", 4}, {"[}", 1}, {"[a|]", 3}, {"[a b]", 3}, {"[.", 1}, {"[[]]", 3},
		{"{", 1}, {"{a", 2}, {"{a,", 3}, {"{a,b", 4}, {"{a,}", 3}, {"{,}", 1}, {"{,a}", 1}, {"{a,,b}", 3}, {"{a b}", 3}, {"{a|b}", 2}, {"{a;b}", 2}, {"{a]", 2}, {"{]", 1}, {"{a)", 2}, {"{.", 1}, {"{a.}", 2}, {"{{}", 3}, {"{a,.", 3},
	} {
		patternFault(t, c.s, api.ErrParse, c.at)
		guardedFault(t, c.s, api.ErrParse, c.at)
		exprFault(t, c.s, api.ErrParse, c.at)
	}
}

// P8.1: what is no pattern, and what is no guard expression.
func TestOtherValues(t *testing.T) {
	for s, at := range map[string]int{"(": 0, "(X": 0, "(X + 1)": 0, "(X = 1)": 0, "fun a:b/1": 0, "case X of Y -> Z end": 0, "try X catch Y:Z -> 1 end": 0, "receive X -> 1 end": 0, "{X, (1 + 2)}": 4, "[f()|a]": 2, "{f()}": 2, "{X(1)}": 2, "{m:f()}": 2, "[a|{m:f}]": 5, "{a = b}": 3} {
		patternFault(t, s, api.ErrParse, at)
	}
	for s, at := range map[string]int{"f(X)": 1, "m:f": 1, "X()": 1, "X 1": 2, "_ _": 2, "[] []": 3, "{} = 1": 3, "1 + 2": 2, "1.": 1, "a, b": 1, "a config": 2, "a when (X > 1)": 2} {
		n, f := Pattern(s)
		wantFault(t, "Pattern", s, n, f, api.Flaw{E: api.ErrParse, At: at})
	}
	for s, at := range map[string]int{"(X div 1)": 3, "(X rem 1)": 3, "(X = 1)": 3, "(X =:= 1)": 3, "(X < 1)": 3, "(X >= 1)": 3, "(X)": 2, "(X , 1)": 3, "(+ X)": 1, "()": 1, "(X +)": 4, "(X + 1": 6, "(X + 1]": 6, "(X + 1 + 2)": 7, "f()": 1, "X()": 1, "m:f()": 1, "fun a:b/1": 0, "case X of Y -> Z end": 0, "try X catch Y:Z -> 1 end": 0, "receive X -> 1 end": 0, "{(a = b)}": 4, "[f()|a]": 2} {
		if strings.HasPrefix(s, "f(") || strings.HasPrefix(s, "X(") || strings.HasPrefix(s, "m:") {
			testFault(t, "is_atom("+s, api.ErrParse, 8+at)
			testFault(t, "(1 < "+s, api.ErrParse, 5+at)
			continue
		}
		testFault(t, "is_atom("+s, api.ErrParse, 8+at)
		testFault(t, "((1 + "+s, api.ErrParse, 6+at)
	}
}

// P8.1: faults of guards and tests.
func TestTestFaults(t *testing.T) {
	for s, at := range map[string]int{
		"": 0, "X": 0, "1": 0, "[]": 0, "{}": 0, "-1": 0, "fun": 0, "->": 0, ",": 0, ".": 0, "case X of Y -> Z end": 0,
		"is_atom": 7, "is_atom(": 8, "is_atom()": 8, "is_atom(X": 9, "is_atom(X, Y)": 9, "is_atom X": 8, "is_atom:f(X)": 7, "is_atom{X}": 7, "is_atom(X]": 9, "is_atom(X) ->": 13, "is_atom(X),": 11, "is_atom(X), ->": 12, "is_atom(X); is_atom(Y)": 10, "is_atom(X) is_atom(Y)": 11, "is_atom(X) when": 11, "is_atom(X) =": 11,
		"(": 1, "()": 1, "(X": 2, "(X)": 2, "(X >": 4, "(X > 1": 6, "(X > )": 5, "(X > 1]": 6, "(> 1)": 1, "(X > 1 > 2)": 7, "(X + 1)": 3, "(X - 1)": 3, "(X * 1)": 3, "(X div 1)": 3, "(X rem 1)": 3, "(X = 1)": 3, "(X, 1)": 2, "(X | 1)": 3, "(X -> 1)": 3, "((X > 1) =:= 2)": 4, "(X > (Y > 1))": 8, "((X + 1))": 8, "(X /= 1)": 3,
		"foo(X)": 0, "foo": 0, "foo #": 0, "is_number(X)": 0, "is_atoms(X)": 0, "is_ato(X)": 0, "is_boolean(X)": 0, "is_atom(X), foo(X)": 12, "self()": 0, "error": 0,
	} {
		testFault(t, s, api.ErrParse, at)
	}
	testFault(t, "is_atom(X) #", api.ErrScan, 11)
	testFault(t, "(X !", api.ErrScan, 3)
	testFault(t, "foo !", api.ErrParse, 0)
}

// P8.1: faults of operations, matches, calls and funs.
func TestExprFaults(t *testing.T) {
	for s, at := range map[string]int{
		"()": 1, "(X)": 2, "(X": 2, "(": 1, "(X +": 4, "(X + )": 5, "(X + 1": 6, "(X + 1]": 6, "(X + 1 + 2)": 7, "(X 1)": 3, "(+ 1 2)": 1, "(* 1)": 1, "(X , Y)": 3, "(X | Y)": 3, "(X : Y)": 3, "(X / Y)": 3, "(X -> Y)": 3, "(X ; Y)": 3, "(X . Y)": 3, "(X when Y)": 3, "(X of Y)": 3, "(X and Y)": 3, "(X + + Y)": 5, "(X < > Y)": 5, "(X = = Y)": 5, "(X = )": 5, "(X = 1": 6, "(X = 1 = 2)": 7, "(X = Y,)": 6, "(X /= Y)": 3,
		"(f(X) = 1)": 6, "(m:f() = 1)": 7, "(X() = 1)": 5, "(fun m:f/1 = 1)": 11, "((X + 1) = 2)": 9, "((X = 1) = 2)": 9, "({a, (X = 1)} = 2)": 14, "([X|f()] = 2)": 9, "({{}, {f()}} = 2)": 13, "(case X of Y -> Z end = 1)": 22, "(try X catch Y:Z -> 1 end = 1)": 26, "(receive after 1 -> 2 end = 1)": 26, "(f() = #": 5, "(f() =": 5, "({1, g(2)} = = 3)": 11,
		"f(": 2, "f(1": 3, "f(1,": 4, "f(,)": 2, "f(1,)": 4, "f(1 2)": 4, "f(1;2)": 3, "f(1|2)": 3, "f(1]": 3, "f(1,,2)": 4, "X(": 2, "X(1": 3, "X(1,)": 4, "X(]": 2,
		"m:": 2, "m:f": 3, "m:f(": 4, "m:f(1": 5, "m:f(1,)": 6, "m:X()": 2, "m:1()": 2, "m:(f)()": 2, "m:f:g()": 3, "m:case()": 2, "m:f/1": 3, "m::f()": 2, "m:f{}": 3,
		"fun": 3, "fun X:f/1": 4, "fun m": 5, "fun m/1": 5, "fun m:": 6, "fun m:X/1": 6, "fun m:f": 7, "fun m:f/": 8, "fun m:f(1)": 7, "fun m:f/X": 8, "fun m:f/-1": 8, "fun m:f/a": 8, "fun (X) -> 1 end": 4, "fun 1:f/1": 4, "fun m:end/1": 6, "fun m.f/1": 5, "fun m:f:1": 7, "fun module:f/1": 4,
	} {
		exprFault(t, s, api.ErrParse, at)
	}
	exprFault(t, "(X ! Y)", api.ErrScan, 3)
	exprFault(t, "f(X, ~", api.ErrScan, 5)
	exprFault(t, "fun m#", api.ErrScan, 5)
}

// P8.1: faults of case, try and receive.
func TestClauseFaults(t *testing.T) {
	for s, at := range map[string]int{
		"case": 4, "case of": 5, "case X": 6, "case X,": 6, "case X Y": 7, "case X of": 9, "case X of end": 10, "case X of 1": 11, "case X of 1 ->": 14, "case X of 1 -> end": 15, "case X of 1 -> 2": 16, "case X of 1 -> 2,": 17, "case X of 1 -> 2, end": 18, "case X of 1 -> 2;": 17, "case X of 1 -> 2; end": 18, "case X of 1 -> 2. end": 16, "case X of 1 = 2 -> 3 end": 12, "case X of 1, 2 -> 3 end": 11, "case X of 1 when -> 2 end": 17, "case X of 1 -> 2 when (X > 1) end": 17, "case X of when (X > 1) -> 1 end": 10, "case X of f() -> 1 end": 11, "case X of 1:2 -> 3 end": 11, "case X of -> 1 end": 10, "case X of 1 -> -> 2 end": 15, "case X of 1 -> 2 3 end": 17, "case X of 1 -> 2 catch": 17, "case X of 1 -> 2 after 3 -> 4 end": 17, "case X of (X) -> 1 end": 10, "case X of 1 when a -> 2 end": 17, "case X of 1 ; 2 -> 3 end": 12,
		"try": 3, "try catch": 4, "try X": 5, "try X of": 6, "try X, Y catch": 5, "try X catch": 11, "try X catch end": 12, "try X catch Y": 13, "try X catch Y ->": 14, "try X catch Y:": 14, "try X catch Y: ->": 15, "try X catch Y:Z": 15, "try X catch Y:Z ->": 18, "try X catch Y:Z -> end": 19, "try X catch Y:Z -> 1": 20, "try X catch Y:Z -> 1;": 21, "try X catch Y:Z -> 1; end": 22, "try X catch Y:Z:A -> 1 end": 15, "try X catch Y, Z -> 1 end": 13, "try X catch Y:Z -> 1 after 2 -> 3 end": 21, "try X catch 1:Z -> 1 end": 12, "try X catch []:Z -> 1 end": 12, "try X catch {}:Z -> 1 end": 12, "try X catch -1:Z -> 1 end": 12, "try X catch fun:Z -> 1 end": 12, "try X catch :Z -> 1 end": 12, "try X end": 6, "try X after 1 end": 6,
		"try X catch foo:Y -> 1 end": 12, "try X catch foo": 12, "try X catch foo #": 12, "try X catch foo -> 1 end": 12, "try X catch errors:Y -> 1 end": 12, "try X catch erro:Y -> 1 end": 12, "try X catch exits:Y -> 1 end": 12, "try X catch throws:Y -> 1 end": 12, "try X catch error:Y -> 1; foo:Y -> 1 end": 26, "try X catch is_atom:Y -> 1 end": 12, "try X catch error": 17, "try X catch exit ->": 17, "try X catch throw(Y)": 17, "try X catch error:f()": 19,
		"receive": 7, "receive end": 8, "receive end end": 8, "receive ->": 8, "receive when": 8, "receive X": 9, "receive X ->": 12, "receive X -> end": 13, "receive X -> 1": 14, "receive X -> 1;": 15, "receive X -> 1; end": 16, "receive X -> 1; after": 16, "receive X after": 10, "receive X:Y -> 1 end": 9, "receive X -> 1 after": 20, "receive X -> 1 after end": 21, "receive after": 13, "receive after end": 14, "receive after 1": 15, "receive after 1 end": 16, "receive after 1 ->": 18, "receive after 1 -> end": 19, "receive after 1 -> 2": 20, "receive after 1 -> 2,": 21, "receive after 1 -> 2;": 20, "receive after 1 when (X > 1) -> 2 end": 16, "receive after 1, 2 -> 3 end": 15, "receive after 1 -> 2 after 3 -> 4 end": 21, "receive after 1 -> 2; X -> 3 end": 20, "receive after 1 -> 2. end": 20, "receive (X) -> 1 end": 8, "receive f() -> 1 end": 9, "receive of": 8,
	} {
		exprFault(t, s, api.ErrParse, at)
	}
	exprFault(t, "receive #", api.ErrScan, 8)
	exprFault(t, "receive X -> 1 #", api.ErrScan, 15)
	exprFault(t, "try X catch #", api.ErrScan, 12)
}

// P8.1: faults of modules and functions.
func TestModuleFaults(t *testing.T) {
	for s, at := range map[string]int{
		"f() -> 1.": 0, "X": 0, "1": 0, ".": 0, "(": 0, "a": 0, "end": 0, "receive": 0, "-": 0, ";": 0,
		"module": 6, "module A.": 7, "module 1.": 7, "module .": 7, "module a": 8, "module a,": 8, "module a b.": 9, "module a;": 8, "module a()": 8, "module module.": 7, "module end.": 7, "module a module b.": 9, "module a. .": 10, "module a. X": 10, "module a. 1": 10, "module a. ;": 10, "module a. end": 10, "module a. module": 16, "module a. (": 10, "module a:b.": 8,
		"module a. f": 11, "module a. f.": 11, "module a. f -> 1.": 12, "module a. f(": 12, "module a. f( -> 1.": 13, "module a. f(,": 12, "module a. f(1": 13, "module a. f(1,": 14, "module a. f(1,)": 14, "module a. f(1;": 13, "module a. f(1]": 13, "module a. f(1 2)": 14, "module a. f{": 11, "module a. f()": 13, "module a. f() 1.": 14, "module a. f() ->": 16, "module a. f() -> .": 17, "module a. f() -> ;": 17, "module a. f() -> 1": 18, "module a. f() -> 1 2.": 19, "module a. f() -> 1,": 19, "module a. f() -> 1,.": 19, "module a. f() -> 1;": 19, "module a. f() -> 1; .": 20, "module a. f() -> 1; X": 20, "module a. f() -> 1; 1": 20, "module a. f() -> 1; module": 20, "module a. f() -> 1 end": 19, "module a. f() -> 1 when": 19, "module a. f() -> 1 ->": 19, "module a. f() = 1.": 14, "module a. f() -> 1..": 19, "module a. f() -> 1. X": 20, "module a. f() -> 1. 2.": 20, "module a. f():g() -> 1.": 13, "module a. f() ; f() -> 1.": 14, "module a. f() -> , #": 17, "module a. f() when -> 1.": 19, "module a. f() when": 18, "module a. f() when a -> 1.": 19,
		"module a. f() -> 1; g() -> 2.": 20, "module a. f() -> 1; g": 20, "module a. f() -> 1; g #": 20, "module a. f() -> 1; ff() -> 2.": 20, "module a. ff() -> 1; f() -> 2.": 21, "module a. f() -> 1; f() -> 2; a() -> 3.": 30, "module a. f() -> 1. f(X) -> 1; g(X) -> 1.": 31,
		"module a. f(X) -> 1; f() -> 2.": 21, "module a. f() -> 1; f(X) -> 2.": 20, "module a. f(X) -> 1; f(X, Y) -> 2.": 21, "module a. f(X, Y) -> 1; f(X) -> 2.": 24, "module a. f() -> 1; f() -> 2; f(X) -> 3.": 30, "module a. f(X) -> 1; f()": 21, "module a. f(X) -> 1; f() #": 21, "module a. f(X) -> 1; f() 1": 21, "module a. f(X) -> 1; f() when foo": 21, "module a. f() -> 1; f(X": 23, "module a. f() -> 1; f(X,": 24, "module a. f() -> 1; f(X] ->": 23,
	} {
		modsFault(t, s, api.ErrParse, at)
		if at == len(s) {
			modsFault(t, s+"\n ", api.ErrParse, at+2)
			modsFault(t, s+" #", api.ErrScan, at+1)
			modsFault(t, s+" config", api.ErrParse, at+1)
		}
	}
	modsFault(t, "module a. f(X) -> 1; f( #", api.ErrScan, 24)
	modsFault(t, "module a. f() -> 1; #", api.ErrScan, 20)
	modsFault(t, "module a. f() -> 1 #", api.ErrScan, 19)
}

// P8.1, P8.2: where the tokens end by a flaw of the scan.
func TestScanFlaws(t *testing.T) {
	long, great := strings.Repeat("a", 33), "576460752303423489"
	for _, s := range []string{"", " ", "module a. ", "module a. f() -> 1. ", "module a. f() -> f( ", "module a. f(X) -> 1; f(", "module a. f({", "module "} {
		for _, b := range []string{"#", "\x00", "!", "@", "\"", "'", "\x80", "\\", "^", "&", "~", "`", "$", "?"} {
			modsFault(t, s+b, api.ErrScan, len(s))
			modsFault(t, s+b+" #", api.ErrScan, len(s))
			modsFault(t, s+b+long, api.ErrScan, len(s))
			modsFault(t, s+b+" config", api.ErrScan, len(s))
		}
		for _, b := range []string{long, "A" + long, "_" + long, great, great + great, "0" + great} {
			modsFault(t, s+b, api.ErrLimit, len(s))
			modsFault(t, s+b+" #", api.ErrLimit, len(s))
			modsFault(t, s+b+" config", api.ErrLimit, len(s))
		}
	}
	for _, s := range []string{"f() #", ". #", "1 # #", "X " + great, "end " + long} {
		modsFault(t, s, api.ErrParse, 0)
	}
	for s, f := range map[string]api.Flaw{
		"#": {E: api.ErrScan}, "a #": {E: api.ErrScan, At: 2}, "{a #": {E: api.ErrScan, At: 3}, "{#a": {E: api.ErrScan, At: 1}, "a " + long: {E: api.ErrLimit, At: 2}, "- " + great: {E: api.ErrLimit, At: 2}, "{a " + great: {E: api.ErrLimit, At: 3}, "a b #": {E: api.ErrParse, At: 2}, "{a b #": {E: api.ErrParse, At: 3}, "- a #": {E: api.ErrParse, At: 2}, "[a, #": {E: api.ErrParse, At: 2},
	} {
		n, got := Expr(s)
		wantFault(t, "Expr", s, n, got, f)
		n, got = Pattern(s)
		wantFault(t, "Pattern", s, n, got, f)
	}
}

// P8.1: something behind an expression that is read by itself.
func TestMore(t *testing.T) {
	for s, at := range map[string]int{"X Y": 2, "a.": 1, "1 1": 2, "[] []": 3, "{}{}": 2, "(1 + 2) +": 8, "f() ()": 4, "f()()": 3, "X()()": 3, "m:f():g": 5, "fun m:f/1/2": 9, "fun m:f/1(": 9, "case 1 of 2 -> 3 end end": 21, "X = 1": 2, "1 + 2": 2, "a, b": 1, "a; b": 1, "a config": 2, "a module": 2, "{})": 2, "[]]": 2, "1(2)": 1, "[](2)": 2, "{}:f()": 2, "X:f()": 1, "receive after 1 -> 2 end,": 24, "try X catch Y:Z -> 1 end #": 25} {
		n, f := Expr(s)
		e := api.ErrParse
		if strings.HasSuffix(s, "#") {
			e = api.ErrScan
		}
		wantFault(t, "Expr", s, n, f, api.Flaw{E: e, At: at})
	}
}
