package compile

import (
	"fmt"
	"regexp"
	"slices"
	"strconv"
	"strings"
	"testing"

	"pleach/api"
	"pleach/ast"
	"pleach/code"
	"pleach/parse"
	"pleach/term"
)

// mods is the tree of a text.
func mods(t *testing.T, s string) api.Node {
	t.Helper()
	n, f := parse.Mods(s)
	if f.E != api.OK {
		t.Fatalf("%s: %v", s, f)
	}
	return n
}

var words = [...]string{"const", "load", "store", "pop", "tuple", "cons", "arith", "built", "call", "tail", "apply", "ret", "jump", "match", "guard", "fail", "try", "end", "recv", "wait"}

// cut is the text of a tree, of which one clause of a function f is told by ast, without what stands around it.
func cut(clause api.Node, ahead, behind string) string {
	f := api.Node{K: api.NdFun, S: "f", N: clause.N, L: []api.Node{clause}}
	s := ast.Text(api.Node{K: api.NdMods, L: []api.Node{{K: api.NdMod, S: "m", L: []api.Node{f}}}})
	s, ok := strings.CutPrefix(s, "module m.\n"+ahead)
	s, same := strings.CutSuffix(s, behind+".\n")
	if !ok || !same {
		return "none"
	}
	return s
}

func patternText(n api.Node) string {
	return cut(api.Node{K: api.NdClause, N: 1, L: []api.Node{n, {K: api.NdGuard}, {K: api.NdNil}}}, "f(", ") -> []")
}

func guardText(n api.Node) string {
	return cut(api.Node{K: api.NdClause, L: []api.Node{n, {K: api.NdNil}}}, "f() when ", " -> []")
}

func clausesText(l []api.Node) string {
	if len(l) == 0 {
		return ""
	}
	return cut(api.Node{K: api.NdClause, L: []api.Node{{K: api.NdGuard}, {K: api.NdRecv, L: l}}}, "f() -> receive ", " end")
}

// told tells an instruction of a code: all that it names, functions and tables by what they are.
func told(p api.Prog, c api.Code) string {
	s := words[c.Op]
	switch c.Op {
	case api.OpConst:
		s += " " + term.Text(c.T)
	case api.OpLoad, api.OpStore, api.OpTuple, api.OpApply, api.OpJump, api.OpTry:
		s += fmt.Sprint(" ", c.A)
	case api.OpArith:
		s += " " + c.T.S
	case api.OpBuilt:
		s += fmt.Sprint(" ", c.T.S, " ", c.A)
	case api.OpCall, api.OpTail:
		s += fmt.Sprintf(" %s:%s/%d", p.Fns[c.B].S, p.Fns[c.B].T, c.A)
	case api.OpMatch:
		s += fmt.Sprint(" ", c.A, " ", c.B, " ", patternText(c.P))
	case api.OpGuard:
		s += fmt.Sprint(" ", c.A, " ", guardText(c.P))
	case api.OpFail:
		s += fmt.Sprint(" ", c.B, " ", term.Text(c.T))
	case api.OpRecv:
		s += fmt.Sprint(" ", c.A, " ", c.B, " ", c.T.N, " ", p.Tab[c.B], " ", clausesText(c.L))
	}
	return strings.TrimSpace(s)
}

// lines are the instructions of a code.
func lines(p api.Prog) []string {
	var l []string
	for _, c := range p.Ops {
		l = append(l, told(p, c))
	}
	return l
}

// functionsText tells the functions of a code: their names, where they begin, their slots.
func functionsText(p api.Prog) string {
	var l []string
	for _, f := range p.Fns {
		l = append(l, fmt.Sprintf("%s:%s/%d %d %d", f.S, f.T, f.N, f.At, f.Slots))
	}
	return strings.Join(l, ", ")
}

// compiled is the code of a text.
func compiled(t *testing.T, s string) api.Prog {
	t.Helper()
	p, e := Compile(mods(t, s))
	if e != api.OK || code.Check(p) != api.OK {
		t.Fatalf("%s: %v, %v", s, e, code.Check(p))
	}
	return p
}

func wantCode(t *testing.T, text, fns, ops string) {
	t.Helper()
	p := compiled(t, text)
	if got := functionsText(p); got != fns {
		t.Errorf("%s: functions %s, not %s", text, got, fns)
	}
	if got := strings.Join(lines(p), "; "); got != ops {
		t.Errorf("%s\n%s\n%s", text, got, ops)
	}
}

// P14.1: the chapter's examples.
func TestExamples(t *testing.T) {
	wantCode(t, "module m. f(X) -> X.", "m:f/1 0 2", "load 0; match 4 1 V1; load 1; ret; pop; fail 0 function_clause")
	wantCode(t, "module m. f() -> g(). g() -> 1.", "m:f/0 0 0, m:g/0 2 0", "tail m:g/0; fail 0 function_clause; const 1; ret; fail 0 function_clause")
}

// P14.1: functions of no argument and of as many as may be, with one clause and with several, with guards and without.
func TestFunctions(t *testing.T) {
	for _, r := range []struct{ text, fns, ops string }{
		{"", "", ""},
		{"module m.", "", ""},
		{"module m. module n. module o.", "", ""},
		{"module m. f() -> 1.", "m:f/0 0 0", "const 1; ret; fail 0 function_clause"},
		{"module m. f() -> 1; f() -> 2.", "m:f/0 0 0", "const 1; ret; const 2; ret; fail 0 function_clause"},
		{"module m. f() when (1 < 2), is_atom(a) -> 1; f() -> 2.", "m:f/0 0 0", "guard 3 (1 < 2), is_atom(a); const 1; ret; const 2; ret; fail 0 function_clause"},
		{"module m. f() when (1 < 2) -> 1; f() when (2 < 3) -> 2.", "m:f/0 0 0", "guard 3 (1 < 2); const 1; ret; guard 6 (2 < 3); const 2; ret; fail 0 function_clause"},
		{"module m. f(1) -> 1.", "m:f/1 0 1", "load 0; match 4 1 1; const 1; ret; pop; fail 0 function_clause"},
		{"module m. f(X) when (X > 1) -> X; f(Y) -> {Y}.", "m:f/1 0 2", "load 0; match 5 1 V1; guard 6 (V1 > 1); load 1; ret; pop; load 0; match 11 1 V1; load 1; tuple 1; ret; pop; fail 0 function_clause"},
		{"module m. f(_, _) -> 1.", "m:f/2 0 2", "load 0; match 6 2 _; load 1; match 6 2 _; const 1; ret; pop; fail 0 function_clause"},
		{"module m. f({X, Y}, [Y|X]) when (X > Y) -> X; f(Y, Y) -> 7; f(_, X) -> X.", "m:f/2 0 4", "load 0; match 7 2 {V2, V3}; load 1; match 7 4 [V3|V2]; guard 8 (V2 > V3); load 2; ret; pop; load 0; match 14 2 V2; load 1; match 14 3 V2; const 7; ret; pop; load 0; match 21 2 _; load 1; match 21 2 V2; load 2; ret; pop; fail 0 function_clause"},
		{
			"module m. f(A, {B, A, B}, _, 1, [C|_], a, [], D) -> D.", "m:f/8 0 12",
			"load 0; match 18 8 V8; load 1; match 18 9 {V9, V8, V9}; load 2; match 18 10 _; load 3; match 18 10 1; load 4; match 18 10 [V10|_]; load 5; match 18 11 a; load 6; match 18 11 []; load 7; match 18 11 V11; load 11; ret; pop; fail 0 function_clause",
		},
		// Of no argument, there is nothing to be popped.
		{"module m. f() when (1 > 2) -> (X = 1), X; f() -> (Y = 2).", "m:f/0 0 2", "guard 11 (1 > 2); const 1; store 0; load 0; match 7 1 V1; load 0; jump 8; fail 1 badmatch; pop; load 1; ret; const 2; store 0; load 0; match 17 1 V1; load 0; jump 18; fail 1 badmatch; ret; fail 0 function_clause"},
	} {
		wantCode(t, r.text, r.fns, r.ops)
	}
}

// P14.1: functions stand in order, module by module; calls go ahead, behind, to other modules, to themselves.
func TestCalls(t *testing.T) {
	for _, r := range []struct{ text, fns, ops string }{
		{
			"module m. f() -> g(1), f(). g(_) -> f(), n:f(). module n. f() -> g(), m:g(2). g() -> m:f(), m:f().",
			"m:f/0 0 0, m:g/1 5 1, n:f/0 12 0, n:g/0 17 0",
			"const 1; call m:g/1; pop; tail m:f/0; fail 0 function_clause; load 0; match 10 1 _; call m:f/0; pop; tail n:f/0; pop; fail 0 function_clause; call n:g/0; pop; const 2; tail m:g/1; fail 0 function_clause; call m:f/0; pop; tail m:f/0; fail 0 function_clause",
		},
		// Functions of one name are told by how many arguments they have, and by their module.
		{
			"module m. f() -> f(1). f(X) -> f(X, X). f(X, _) -> n:f(X). module n. f(_) -> f(). f() -> m:f().",
			"m:f/0 0 0, m:f/1 3 2, m:f/2 10 3, n:f/1 18 1, n:f/0 23 0",
			"const 1; tail m:f/1; fail 0 function_clause; load 0; match 8 1 V1; load 1; load 1; tail m:f/2; pop; fail 0 function_clause; load 0; match 16 2 V2; load 1; match 16 3 _; load 2; tail n:f/1; pop; fail 0 function_clause; load 0; match 21 1 _; tail n:f/0; pop; fail 0 function_clause; tail m:f/0; fail 0 function_clause",
		},
		// A module without functions between others.
		{"module m. module n. f() -> 1. module o. module q. f() -> n:f().", "n:f/0 0 0, q:f/0 3 0", "const 1; ret; fail 0 function_clause; tail n:f/0; fail 0 function_clause"},
		// A built-in's name with another number of arguments is a function's.
		{
			"module m. f() -> hd(), hd([], a), hd([]). hd() -> self(). hd(_, _) -> self(1). self(_) -> exit(). exit() -> 1.",
			"m:f/0 0 0, m:hd/0 10 0, m:hd/2 13 2, m:self/1 21 1, m:exit/0 26 0",
			"call m:hd/0; pop; const []; const a; call m:hd/2; pop; const []; built hd 1; ret; fail 0 function_clause; built self 0; ret; fail 0 function_clause; load 0; match 19 2 _; load 1; match 19 2 _; const 1; tail m:self/1; pop; fail 0 function_clause; load 0; match 24 1 _; tail m:exit/0; pop; fail 0 function_clause; const 1; ret; fail 0 function_clause",
		},
	} {
		wantCode(t, r.text, r.fns, r.ops)
	}
}

// place is a text in which an expression stands: X is bound to V1; it begins at the place 2.
func place(e string) string {
	return "module m. f(X) -> " + e + ". g(X) -> X. module n. h() -> 1."
}

// parts are the instructions of f in such a text, without its head and without what stands behind its clause.
func parts(t *testing.T, e string) (string, int) {
	t.Helper()
	p := compiled(t, place(e))
	l := lines(p)[:p.Fns[1].At]
	end := len(l) - 2
	if got := strings.Join(slices.Concat(l[:2], l[end:]), "; "); got != fmt.Sprintf("load 0; match %d 1 V1; pop; fail 0 function_clause", end) {
		t.Errorf("%s: %s", e, got)
	}
	return strings.Join(l[2:end], "; "), p.Fns[0].Slots
}

// kind is an expression, what it is in front of another one, and where it is the last one; how many slots there are.
type kind struct {
	e, front, last string
	slots          int
}

func wantKinds(t *testing.T, rows []kind) {
	t.Helper()
	for _, r := range rows {
		if got, slots := parts(t, r.e+", a"); got != r.front+"; pop; const a; ret" || slots != r.slots {
			t.Errorf("%s in front: %d slots\n%s\n%s", r.e, slots, got, r.front)
		}
		if got, slots := parts(t, r.e); got != r.last || slots != r.slots {
			t.Errorf("%s: %d slots\n%s\n%s", r.e, slots, got, r.last)
		}
		// What stands ahead shifts its places alone.
		got, slots := parts(t, "a, "+r.e)
		if want := "const a; pop; " + shift(r.last, 2); got != want || slots != r.slots {
			t.Errorf("a, %s: %d slots\n%s\n%s", r.e, slots, got, want)
		}
	}
}

// leading is an instruction that leads to places, up to the first of them.
var leading = regexp.MustCompile(`(?:jump|match|guard|try) \d+|recv \d+ \d+ \d+ \[[\d ]+\]`)

// shift is the text of instructions that stand so many places behind.
func shift(ops string, by int) string {
	return leading.ReplaceAllStringFunc(ops, func(s string) string {
		ahead, places := s[:strings.LastIndex(s, " ")], s[strings.LastIndex(s, " "):]
		if i := strings.Index(s, "["); i >= 0 {
			ahead, places = s[:i], s[i:]
		}
		return ahead + regexp.MustCompile(`\d+`).ReplaceAllStringFunc(places, func(s string) string {
			at, _ := strconv.Atoi(s)
			return strconv.Itoa(at + by)
		})
	})
}

// P14.1: expressions of each kind that is no receive, in tail position and in front of another expression.
func TestKinds(t *testing.T) {
	simple := func(e, ops string) kind { return kind{e, ops, ops + "; ret", 2} }
	rows := []kind{
		simple("X", "load 1"), simple("7", "const 7"), simple("-576460752303423488", "const -576460752303423488"), simple("a", "const a"), simple("[]", "const []"), simple("fun n:h/0", "const fun n:h/0"),
		simple("{}", "tuple 0"), simple("{X}", "load 1; tuple 1"), simple("{X, 7, {a}}", "load 1; const 7; const a; tuple 1; tuple 3"),
		simple("[X|7]", "load 1; const 7; cons"), simple("[a|[X|[]]]", "const a; load 1; const []; cons; cons"), simple("[[a|X]|b]", "const a; load 1; cons; const b; cons"),
		simple("self()", "built self 0"), simple("exit(X)", "load 1; built exit 1"), simple("exit(X, 7)", "load 1; const 7; built exit 2"), simple("call(a, X, 7)", "const a; load 1; const 7; built call 3"), simple("hd(tl(X))", "load 1; built tl 1; built hd 1"),
		simple("X()", "load 1; apply 0"), simple("X(7)", "load 1; const 7; apply 1"), simple("X(X, 1, 2, 3, 4, 5, 6, a)", "load 1; load 1; const 1; const 2; const 3; const 4; const 5; const 6; const a; apply 8"),
		{"g(X)", "load 1; call m:g/1", "load 1; tail m:g/1", 2}, {"n:h()", "call n:h/0", "tail n:h/0", 2}, {"m:g(7)", "const 7; call m:g/1", "const 7; tail m:g/1", 2},
		// Arguments are in no tail position.
		{"g(g(n:h()))", "call n:h/0; call m:g/1; call m:g/1", "call n:h/0; call m:g/1; tail m:g/1", 2}, {"{g(X)}", "load 1; call m:g/1; tuple 1", "load 1; call m:g/1; tuple 1; ret", 2}, {"hd(g(X))", "load 1; call m:g/1; built hd 1", "load 1; call m:g/1; built hd 1; ret", 2}, {"X(n:h())", "load 1; call n:h/0; apply 1", "load 1; call n:h/0; apply 1; ret", 2}, {"(n:h() + g(1))", "call n:h/0; const 1; call m:g/1; arith +", "call n:h/0; const 1; call m:g/1; arith +; ret", 2},
	}
	for _, op := range []string{"+", "-", "*", "div", "rem", "=:=", "=/=", "<", "=<", ">", ">="} {
		rows = append(rows, simple("(X "+op+" 7)", "load 1; const 7; arith "+op), simple("((1 "+op+" X) "+op+" (a "+op+" X))", "const 1; load 1; arith "+op+"; const a; load 1; arith "+op+"; arith "+op))
	}
	wantKinds(t, rows)
}
