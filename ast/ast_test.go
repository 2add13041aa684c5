package ast

import (
	"math"
	"math/rand"
	"reflect"
	"slices"
	"strconv"
	"strings"
	"sync"
	"testing"

	"pleach/api"
)

func node(k int8, l ...api.Node) api.Node            { return api.Node{K: k, L: l} }
func named(k int8, s string, l ...api.Node) api.Node { return api.Node{K: k, S: s, L: l} }
func v(s string) api.Node                            { return named(api.NdVar, s) }
func at(s string) api.Node                           { return named(api.NdAtom, s) }
func num(n int) api.Node                             { return api.Node{K: api.NdInt, N: n} }
func op(s string, l ...api.Node) api.Node            { return named(api.NdOp, s, l...) }
func tuple(l ...api.Node) api.Node                   { return node(api.NdTuple, l...) }
func cons(l ...api.Node) api.Node                    { return node(api.NdCons, l...) }
func grd(l ...api.Node) api.Node                     { return node(api.NdGuard, l...) }
func cl(many int, l ...api.Node) api.Node            { return api.Node{K: api.NdClause, N: many, L: l} }
func fn(s string, many int, l ...api.Node) api.Node {
	return api.Node{K: api.NdFun, S: s, N: many, L: l}
}
func mod(s string, l ...api.Node) api.Node { return named(api.NdMod, s, l...) }
func mods(l ...api.Node) api.Node          { return node(api.NdMods, l...) }
func recv(many int, l ...api.Node) api.Node {
	return api.Node{K: api.NdRecv, N: many, L: l}
}
func ref(s, t string, n int) api.Node { return api.Node{K: api.NdRef, S: s, T: t, N: n} }
func remote(s, t string, l ...api.Node) api.Node {
	return api.Node{K: api.NdRemote, S: s, T: t, L: l}
}

var null = api.Node{K: api.NdNil}

func copies(n api.Node, many int) []api.Node { return slices.Repeat([]api.Node{n}, many) }

// one is a clause of that pattern and no guard.
func one(p api.Node) api.Node { return cl(1, p, grd(), num(1)) }

// in is the tree of one module with one function of one clause: that expression.
func in(e api.Node) api.Node { return mods(mod("m", fn("f", 0, cl(0, grd(), e)))) }

// headed is likewise with that pattern in the head, guarded with that test.
func headed(p api.Node) api.Node  { return mods(mod("m", fn("f", 1, cl(1, p, grd(), num(1))))) }
func guarded(t api.Node) api.Node { return mods(mod("m", fn("f", 0, cl(0, grd(t), num(1))))) }

// tells are what the calls of P7.1 tell of a node: letters of those that let it be.
func tells(n api.Node, many int) string {
	s := ""
	for _, c := range []struct {
		s  string
		ok bool
	}{
		{"m", Check(n) == api.OK}, {"p", Pattern(n)}, {"e", Expr(n)}, {"g", Guard(n)}, {"t", Test(n)}, {"x", Guarded(n)}, {"c", Clause(n, many)},
	} {
		if c.ok {
			s += c.s
		}
	}
	if e := Check(n); e != api.OK && e != api.ErrTree {
		s += "!"
	}
	return s
}

func want(t *testing.T, n api.Node, many int, letters string) {
	t.Helper()
	for range 2 {
		if got := tells(n, many); got != letters {
			t.Errorf("%.300s: %q, not %q", show(n), got, letters)
		}
	}
}

// show tells a tree short, for remarks alone.
func show(n api.Node) string {
	if nodes, _ := Size(n); nodes > 60 {
		return "a great tree"
	}
	s := strconv.Itoa(int(n.K)) + "/" + strconv.Itoa(n.N) + "/" + n.S + "/" + n.T + "("
	for _, p := range n.L {
		s += show(p)
	}
	return s + ")"
}

// wantExpr, wantPattern, wantTest: what is (or is not) such by its call is so in a tree, too.
func wantExpr(t *testing.T, n api.Node, ok bool) {
	t.Helper()
	if Expr(n) != ok || (Check(in(n)) == api.OK) != ok || Clause(cl(0, grd(), n), 0) != ok || Clause(cl(0, grd(), num(1), n), 0) != ok {
		t.Errorf("%.300s: an expression: not %v", show(n), ok)
	}
}

func wantPattern(t *testing.T, n api.Node, ok bool) {
	t.Helper()
	if Pattern(n) != ok || (Check(headed(n)) == api.OK) != ok || Clause(one(n), 1) != ok || Expr(node(api.NdMatch, n, num(1))) != ok || Clause(cl(2, num(1), n, grd(), num(1)), 2) != ok {
		t.Errorf("%.300s: a pattern: not %v", show(n), ok)
	}
}

func wantTest(t *testing.T, n api.Node, ok bool) {
	t.Helper()
	good := op("<", num(1), num(2))
	if Test(n) != ok || (Check(guarded(n)) == api.OK) != ok || Guard(grd(n)) != ok || Guard(grd(good, n)) != ok || Guard(grd(n, good)) != ok {
		t.Errorf("%.300s: a test: not %v", show(n), ok)
	}
}

func wantGuarded(t *testing.T, n api.Node, ok bool) {
	t.Helper()
	if Guarded(n) != ok {
		t.Errorf("%.300s: a guard expression: not %v", show(n), ok)
	}
	wantTest(t, op(">=", n, num(1)), ok)
	wantTest(t, op("<", num(1), n), ok)
	wantTest(t, named(api.NdTest, "is_atom", n), ok)
}

// wantValue: what is (or is not) a pattern, an expression and a guard expression, alone and as a part.
func wantValue(t *testing.T, n api.Node, ok bool) {
	t.Helper()
	wantExpr(t, n, ok)
	wantPattern(t, n, ok)
	wantGuarded(t, n, ok)
	for _, h := range []api.Node{tuple(n), tuple(num(1), n), cons(n, null), cons(null, n), tuple(tuple(), cons(tuple(n), num(1)))} {
		if Pattern(h) != ok || Expr(h) != ok || Guarded(h) != ok {
			t.Errorf("%.300s: a part: not %v", show(h), ok)
		}
	}
	if want := map[bool]string{true: "pex", false: ""}[ok]; tells(n, n.N) != want {
		t.Errorf("%.300s: %q", show(n), tells(n, n.N))
	}
}

// samples are the least nodes that may be, one a kind at least, with the calls that let them be.
func samples() []struct {
	n    api.Node
	tell string
} {
	test := named(api.NdTest, "is_atom", v("X"))
	return []struct {
		n    api.Node
		tell string
	}{
		{mods(), "m"},
		{mods(mod("a")), "m"},
		{mod("a"), ""},
		{fn("f", 0, cl(0, grd(), num(1))), ""},
		{cl(0, grd(), num(1)), "c"},
		{cl(1, v("X"), grd(), num(1)), "c"},
		{cl(2, v("X"), v("X"), grd(), num(1), num(2)), "c"},
		{grd(), "g"},
		{grd(test), "g"},
		{v("X"), "pex"},
		{v("_"), "pex"},
		{num(0), "pex"},
		{num(-7), "pex"},
		{at("a"), "pex"},
		{null, "pex"},
		{cons(num(1), null), "pex"},
		{tuple(), "pex"},
		{tuple(num(1)), "pex"},
		{op("+", num(1), num(2)), "ex"},
		{op("div", num(1), num(2)), "e"},
		{op("<", num(1), num(2)), "et"},
		{test, "t"},
		{node(api.NdMatch, v("X"), num(1)), "e"},
		{named(api.NdCall, "f"), "e"},
		{remote("m", "f"), "e"},
		{node(api.NdApply, v("X")), "e"},
		{ref("m", "f", 0), "e"},
		{node(api.NdCase, v("X"), one(v("X"))), "e"},
		{node(api.NdTry, v("X"), cl(2, v("X"), v("X"), grd(), num(1))), "e"},
		{recv(0, one(v("X"))), "e"},
		{recv(1, node(api.NdAfter, num(1), num(2))), "e"},
		{node(api.NdAfter, num(1), num(2)), ""},
	}
}

// P7.1: each kind, by where it may stand.
func TestKinds(t *testing.T) {
	seen := map[int8]bool{}
	for _, c := range samples() {
		seen[c.n.K] = true
		want(t, c.n, c.n.N, c.tell)
		wantAt(t, c.n)
	}
	if len(seen) != 22 {
		t.Error(len(seen), "kinds")
	}
	for k := math.MinInt8; k <= math.MaxInt8; k++ {
		if k >= int(api.NdMods) && k <= int(api.NdAfter) {
			continue
		}
		for _, l := range [][]api.Node{nil, {num(1)}, {num(1), num(2)}, {v("X"), grd(), num(1)}} {
			n := node(int8(k), l...)
			want(t, n, 0, "")
			wantExpr(t, n, false)
			wantPattern(t, n, false)
			wantGuarded(t, n, false)
			wantTest(t, n, false)
			wantNoTree(t, mods(n), mods(mod("a", n)), mods(mod("a", fn("f", 0, n))))
		}
	}
}

func wantNoTree(t *testing.T, l ...api.Node) {
	t.Helper()
	for _, n := range l {
		if Check(n) != api.ErrTree || Text(n) != "" {
			t.Errorf("%.300s: %v %q", show(n), Check(n), Text(n))
		}
	}
}

// wantAt holds a sample at each place of a tree against the model.
func wantAt(t *testing.T, n api.Node) {
	t.Helper()
	for _, h := range []api.Node{
		n, mods(n), mods(mod("a", n)), mods(mod("a", fn("f", n.N, n))), mods(mod("a", fn("f", 1, cl(1, v("X"), n, num(1))))), in(n), headed(n), guarded(n), guarded(op("<", n, n)),
		in(node(api.NdCase, num(1), n)), in(node(api.NdCase, n, one(v("X")))), in(node(api.NdTry, num(1), n)), in(node(api.NdTry, n, cl(2, v("X"), v("X"), grd(), n))),
		in(recv(0, n)), in(recv(1, n)), in(recv(1, one(v("X")), n)), in(recv(1, n, n)), in(recv(0, n, n)), in(node(api.NdApply, n)), in(node(api.NdApply, v("X"), n)),
		in(named(api.NdCall, "f", n)), in(remote("m", "f", n)), in(node(api.NdMatch, n, n)), in(cons(n, n)), in(op("=:=", n, n)), in(recv(1, node(api.NdAfter, n, n))),
	} {
		wantModel(t, h)
	}
}

// wantModel holds all of P7.1 against the model.
func wantModel(t *testing.T, n api.Node) {
	t.Helper()
	nodes, deep := modelCount(n)
	if a, b := Size(n); a != min(nodes, api.MaxNodes+1) || b != min(deep, api.MaxDepth+1) {
		t.Errorf("%.300s: %d %d, not %d %d", show(n), a, b, nodes, deep)
	}
	letters := ""
	for k, role := range []string{"mods", "pattern", "expr", "guard", "test", "guarded", "clause"} {
		if modelMay(n, role) && nodes <= api.MaxNodes && deep <= api.MaxDepth {
			letters += "mpegtxc"[k : k+1]
		}
	}
	if got := tells(n, n.N); got != letters {
		t.Errorf("%.300s: %q, not %q", show(n), got, letters)
	}
	if !strings.Contains(letters, "m") && Text(n) != "" {
		t.Errorf("%.300s: %q", show(n), Text(n))
	}
	if strings.Contains(letters, "m") {
		wantRead(t, n)
	}
	if l := Vars(n); !slices.Equal(l, modelVars(n)) {
		t.Errorf("%.300s: %v", show(n), l)
	}
}

// P7.1: fields that a kind does not name are empty, those that it names are such.
func TestFields(t *testing.T) {
	for _, c := range samples() {
		names := map[int8]string{
			api.NdMods: "L", api.NdMod: "SL", api.NdFun: "SNL", api.NdClause: "NL", api.NdGuard: "L", api.NdVar: "S", api.NdInt: "N", api.NdAtom: "S", api.NdNil: "", api.NdCons: "L", api.NdTuple: "L",
			api.NdOp: "SL", api.NdTest: "SL", api.NdMatch: "L", api.NdCall: "SL", api.NdRemote: "STL", api.NdApply: "L", api.NdRef: "STN", api.NdCase: "L", api.NdTry: "L", api.NdRecv: "NL", api.NdAfter: "L",
		}[c.n.K]
		for _, f := range []string{"N", "S", "T", "L"} {
			n := c.n
			switch f {
			case "N":
				n.N += 1 << 60
			case "S":
				n.S += " "
			case "T":
				n.T += " "
			case "L":
				n.L = append(slices.Clone(n.L), api.Node{K: 77})
			}
			want(t, n, n.N, "")
			wantAt(t, n)
			if strings.Contains(names, f) {
				continue
			}
			for _, x := range []int{1, -1, 2, math.MinInt, math.MaxInt} {
				m := c.n
				switch f {
				case "N":
					m.N = x
				case "S":
					m.S = []string{"a", "X", "_", "+", "is_atom"}[x&3]
				case "T":
					m.T = []string{"a", "X", "_", "+", "is_atom"}[x&3]
				case "L":
					m.L = copies(num(1), x&3)
				}
				want(t, m, m.N, map[bool]string{true: c.tell}[len(m.L) == 0 && f == "L"])
			}
		}
	}
	want(t, api.Node{K: api.NdNil, L: []api.Node{}}, 0, "pex") // nil and empty mean the same
	want(t, api.Node{K: api.NdInt, L: make([]api.Node, 0, 5)}, 0, "pex")
	want(t, api.Node{}, 0, "m")
}

// P7.1: names of variables.
func TestNames(t *testing.T) {
	long := strings.Repeat("a", 31)
	for _, s := range []string{"_", "X", "A", "Z", "__", "_1", "Xx", "X9", "X_", "_a", "When", "END", "A" + long, "_" + long, "Z" + strings.Repeat("9", 31)} {
		wantValue(t, v(s), true)
		wantExpr(t, node(api.NdApply, v(s)), true)
		wantExpr(t, node(api.NdTry, num(1), cl(2, v(s), v("E"), grd(), num(1))), true)
	}
	for _, s := range []string{"", "x", "a", "z", "0", "9X", " X", "X ", "X-", "X.", "é", "Xé", "X\x00", "X\n", "\xff", "[", "@", "`", "{", "A" + long + "a", "_" + long + "_", strings.Repeat("X", 1<<16)} {
		wantValue(t, v(s), false)
		wantExpr(t, node(api.NdApply, v(s)), false)
		wantExpr(t, node(api.NdTry, num(1), cl(2, v(s), v("E"), grd(), num(1))), false)
	}
}

// atomPlaces are trees with an atom at each place that names one.
func atomPlaces(s string) []api.Node {
	return []api.Node{
		in(at(s)), headed(at(s)), guarded(op("<", at(s), num(1))), mods(mod(s)), mods(mod("a"), mod(s)), mods(mod("a", fn(s, 0, cl(0, grd(), num(1))))),
		in(named(api.NdCall, s)), in(remote(s, "f")), in(remote("m", s)), in(ref(s, "f", 1)), in(ref("m", s, 1)),
	}
}

// P7.1: atoms at each place: what atoms.May lets be, but no words.
func TestAtoms(t *testing.T) {
	long := strings.Repeat("Z", 31)
	for _, s := range []string{"a", "z", "aA", "a9", "z_", "self", "if", "begin", "andalso", "orelse", "not", "afters", "en", "ends", "cases", "aend", "error", "is_atom", "a" + long} {
		wantValue(t, at(s), true)
		for _, n := range atomPlaces(s) {
			if Check(n) != api.OK {
				t.Errorf("%q: %s", s, show(n))
			}
		}
	}
	bad := []string{"", "A", "X", "_", "_a", "0", "1a", "a ", " a", "a-b", "a.", "é", "aé", "a\x00", "+", "->", "div ", "a" + long + "Z", strings.Repeat("a", 1<<16)}
	for _, s := range append(bad, strings.Fields(modelWords)...) {
		wantValue(t, at(s), false)
		wantNoTree(t, atomPlaces(s)...)
	}
}

// P7.1: integers at their bounds, as patterns, in guards, as expressions.
func TestIntegers(t *testing.T) {
	for _, n := range []int{0, 1, -1, 9, -10, 1 << 40, api.MaxInt - 1, api.MaxInt, -api.MaxInt, -api.MaxInt - 1} {
		wantValue(t, num(n), true)
	}
	for _, n := range []int{api.MaxInt + 1, -api.MaxInt - 2, math.MaxInt, math.MinInt, 1 << 62, -1 << 62, 1 << 60} {
		wantValue(t, num(n), false)
	}
}

// P7.1: conses of two, tuples of any.
func TestConsTuple(t *testing.T) {
	for many := range 12 {
		wantValue(t, cons(copies(num(1), many)...), many == 2)
		wantValue(t, tuple(copies(v("X"), many)...), true)
	}
	wantValue(t, cons(num(1), num(2)), true)
	for _, p := range []api.Node{op("+", num(1), num(2)), tuple(op("-", num(1), op("*", v("X"), at("a"))))} {
		for _, n := range []api.Node{p, tuple(p), cons(null, p), cons(p, null), tuple(num(1), tuple(p))} {
			wantPattern(t, n, false)
			wantGuarded(t, n, true)
			wantExpr(t, n, true)
		}
	}
	for _, c := range samples() {
		if c.tell != "e" {
			continue
		}
		for _, n := range []api.Node{c.n, tuple(c.n), cons(null, c.n), cons(c.n, null)} {
			wantPattern(t, n, false)
			wantGuarded(t, n, false)
			wantTest(t, n, false)
			wantExpr(t, n, true)
		}
	}
}

// P7.1: each operator, at each place.
func TestOperators(t *testing.T) {
	for _, s := range strings.Fields(modelArith + " " + modelComps) {
		comparison, simple := oneOf(s, modelComps), oneOf(s, "+ - *")
		n := op(s, v("X"), num(-1))
		wantExpr(t, n, true)
		wantPattern(t, n, false)
		wantGuarded(t, n, simple)
		wantTest(t, n, comparison)
		wantGuarded(t, op("+", n, num(1)), simple)
		wantGuarded(t, op("*", num(1), n), simple)
		wantTest(t, op("<", n, n), simple)
		for many := range 5 {
			wantExpr(t, op(s, copies(num(1), many)...), many == 2)
			wantTest(t, op(s, copies(num(1), many)...), many == 2 && comparison)
			wantGuarded(t, op(s, copies(num(1), many)...), many == 2 && simple)
		}
		call := named(api.NdCall, "f")
		wantExpr(t, op(s, call, num(1)), true)
		wantExpr(t, op(s, num(1), node(api.NdMatch, v("X"), call)), true)
		for _, n := range []api.Node{op(s, call, num(1)), op(s, num(1), call), op(s, num(1), tuple(call))} {
			wantGuarded(t, n, false)
			wantTest(t, n, false)
		}
		for _, p := range []api.Node{grd(), cl(0, grd(), num(1)), mods(), named(api.NdTest, "is_atom", num(1)), v("x")} {
			wantExpr(t, op(s, p, num(1)), false)
			wantExpr(t, op(s, num(1), p), false)
		}
		m := n
		m.T = "a"
		wantExpr(t, m, false)
		m = n
		m.N = 1
		wantExpr(t, m, false)
	}
	for _, s := range []string{"", "=", "==", "/=", "/", "!", "and", "or", "not", "band", "<=", "=>", "->", "a", "X", "+ ", " +", "DIV", "++", "--"} {
		n := op(s, num(1), num(2))
		wantExpr(t, n, false)
		wantGuarded(t, n, false)
		wantTest(t, n, false)
	}
}

// P7.1: each of the seven tests, of one guard expression.
func TestTests(t *testing.T) {
	for _, s := range strings.Fields(modelTests) {
		for _, p := range []api.Node{v("X"), num(1), at("a"), null, tuple(), cons(null, null), op("+", num(1), num(2))} {
			want(t, named(api.NdTest, s, p), 0, "t")
			wantTest(t, named(api.NdTest, s, p), true)
		}
		for many := range 4 {
			wantTest(t, named(api.NdTest, s, copies(num(1), many)...), many == 1)
		}
		for _, p := range []api.Node{op("<", num(1), num(2)), op("div", num(1), num(2)), named(api.NdTest, s, num(1)), named(api.NdCall, "f"), grd(), ref("m", "f", 1)} {
			wantTest(t, named(api.NdTest, s, p), false)
		}
	}
	for _, s := range []string{"", "is_boolean", "is_float", "is_ref", "is_fun", "is_port", "atom", "is_atom ", "Is_atom", "is_", "f", "is_binary", "is_number", "is_map"} {
		want(t, named(api.NdTest, s, num(1)), 0, "")
		wantTest(t, named(api.NdTest, s, num(1)), false)
	}
	good := op("<", num(1), num(2))
	for many := range 9 {
		want(t, grd(copies(good, many)...), 0, "g")
	}
	for _, n := range []api.Node{grd(num(1)), grd(v("X")), grd(good, grd()), grd(grd()), grd(op("+", num(1), num(2))), grd(good, named(api.NdCall, "is_atom", num(1))), {K: api.NdGuard, N: 1}, {K: api.NdGuard, S: "a"}, {K: api.NdGuard, T: "a"}} {
		want(t, n, 0, "")
		wantNoTree(t, mods(mod("m", fn("f", 0, cl(0, n, num(1))))))
	}
}

// P7.1: clauses, and of how many patterns.
func TestClauses(t *testing.T) {
	for many := range api.MaxArity + 4 { // MaxArity bounds functions alone
		c := cl(many, append(copies(v("X"), many), grd(), num(1))...)
		for n := -2; n < 15; n++ {
			if Clause(c, n) != (n == many) {
				t.Errorf("%d of %d", n, many)
			}
		}
		for _, n := range []int{math.MinInt, math.MinInt + 1, math.MinInt + 2, math.MaxInt, math.MaxInt - 1, -many, 1 << 32, many + 1<<32} {
			if n == many {
				continue
			}
			if Clause(c, n) {
				t.Errorf("%d of %d", n, many)
			}
			m := c
			m.N = n
			if Clause(m, n) || Clause(m, many) {
				t.Errorf("%d for %d", n, many)
			}
		}
	}
	for _, c := range []struct {
		n  api.Node
		ok bool
	}{
		{cl(0), false}, {cl(0, grd()), false}, {cl(0, num(1)), false}, {cl(0, grd(), grd()), false}, {cl(0, num(1), grd()), false}, {cl(0, num(1), num(1)), false},
		{cl(0, grd(), num(1)), true}, {cl(0, grd(), num(1), v("X"), at("a")), true}, {cl(0, grd(), num(1), grd()), false}, {cl(0, v("X"), grd(), num(1)), false},
		{cl(1, grd(), num(1)), false}, {cl(1, v("X"), num(1)), false}, {cl(1, v("X"), grd()), false}, {cl(1, v("X"), v("X"), grd(), num(1)), false}, {cl(2, v("X"), grd(), num(1)), false},
		{cl(1, v("X"), grd(), num(1), num(2)), true}, {cl(1, op("+", num(1), num(2)), grd(), num(1)), false}, {cl(1, v("X"), grd(), cl(0, grd(), num(1))), false},
		{cl(2, v("X"), named(api.NdCall, "f"), grd(), num(1)), false}, {cl(3), false}, {cl(1, v("X")), false}, {cl(-1, grd(), num(1)), false},
	} {
		if Clause(c.n, c.n.N) != c.ok {
			t.Errorf("%s: not %v", show(c.n), c.ok)
		}
		if tells(c.n, c.n.N) != map[bool]string{true: "c"}[c.ok] {
			t.Error(show(c.n))
		}
	}
	for _, f := range []api.Node{{K: api.NdClause, S: "a", L: []api.Node{grd(), num(1)}}, {K: api.NdClause, T: "a", L: []api.Node{grd(), num(1)}}} {
		want(t, f, 0, "")
	}
}

// P7.1: modules and functions.
func TestModules(t *testing.T) {
	clause := func(many int) api.Node { return cl(many, append(copies(v("_"), many), grd(), num(1))...) }
	for many := range api.MaxArity + 1 {
		want(t, mods(mod("a", fn("f", many, clause(many)))), 0, "m")
		want(t, mods(mod("a", fn("f", many, clause(many), clause(many)))), 0, "m")
		wantNoTree(t, mods(mod("a", fn("f", many))), mods(mod("a", fn("f", many+1, clause(many)))), mods(mod("a", fn("f", many-1, clause(many)))), mods(mod("a", fn("f", many, clause(many), clause(many+1)))), mods(mod("a", fn("f", many, clause(many+1), clause(many)))))
	}
	for _, many := range []int{api.MaxArity + 1, api.MaxArity + 2} {
		wantNoTree(t, mods(mod("a", fn("f", many, clause(many)))))
	}
	f := fn("f", 0, clause(0))
	for _, n := range []api.Node{mods(), mods(mod("a")), mods(mod("a"), mod("a")), mods(mod("a", f, f), mod("b"), mod("c", f))} {
		want(t, n, 0, "m")
	}
	wantNoTree(t, f, mod("a"), mod("a", f), mods(f), mods(mods()), mods(num(1)), mods(mod("a", mod("b"))), mods(mod("a", clause(0))), mods(mod("a", f), f), mods(mod("a", fn("f", 0, f))),
		mods(mod("a", fn("f", -1, clause(0)))), mods(mod("a", fn("f", math.MinInt, clause(0)))), mods(mod("a", fn("f", 0, cl(-1, grd(), num(1))))), mods(mod("a", fn("f", -1, cl(-1, grd(), num(1))))),
		api.Node{N: 1}, api.Node{S: "a"}, api.Node{T: "a"}, mods(api.Node{K: api.NdMod, S: "a", N: 1}), mods(api.Node{K: api.NdMod, S: "a", T: "a"}), mods(mod("a", api.Node{K: api.NdFun, S: "f", T: "a", L: []api.Node{clause(0)}})))
}

// P7.1: calls of no expression, of MaxArity, and of one more.
func TestCalls(t *testing.T) {
	for many := range api.MaxArity + 4 {
		l := copies(tuple(num(1)), many)
		ok := many <= api.MaxArity
		wantExpr(t, named(api.NdCall, "f", l...), ok)
		wantExpr(t, remote("m", "f", l...), ok)
		wantExpr(t, node(api.NdApply, append([]api.Node{v("X")}, l...)...), ok)
		wantExpr(t, ref("m", "f", many), ok)
	}
	for _, n := range []int{-1, math.MinInt, math.MaxInt, 1 << 32, -1 << 32, 256} {
		wantExpr(t, ref("m", "f", n), false)
	}
	for _, n := range []api.Node{
		node(api.NdApply), node(api.NdApply, num(1)), node(api.NdApply, at("a")), node(api.NdApply, named(api.NdCall, "f")), node(api.NdApply, tuple(v("X"))), node(api.NdApply, num(1), v("X")), node(api.NdApply, ref("m", "f", 0)),
		node(api.NdApply, api.Node{K: api.NdVar, S: "X", N: 1}), named(api.NdApply, "f", v("X")), named(api.NdCall, "f", grd()), named(api.NdCall, "f", num(1), one(num(1))), remote("m", "f", mods()), remote("m", ""), remote("", "f"), ref("m", "", 0), ref("", "f", 0),
		{K: api.NdCall, S: "f", T: "m"}, {K: api.NdCall, S: "f", N: 1}, {K: api.NdRemote, S: "f", T: "m", N: 1}, {K: api.NdRef, S: "f", T: "m", L: []api.Node{num(1)}},
		node(api.NdMatch), node(api.NdMatch, v("X")), node(api.NdMatch, v("X"), num(1), num(2)), node(api.NdMatch, named(api.NdCall, "f"), num(1)), node(api.NdMatch, op("+", num(1), num(2)), num(1)), node(api.NdMatch, node(api.NdMatch, v("X"), v("Y")), num(1)), node(api.NdMatch, v("X"), grd()), named(api.NdMatch, "=", v("X"), num(1)),
	} {
		wantExpr(t, n, false)
	}
	wantExpr(t, node(api.NdMatch, tuple(v("_"), cons(num(1), v("X"))), node(api.NdMatch, v("X"), named(api.NdCall, "f"))), true)
	wantExpr(t, node(api.NdApply, v("X"), v("Y"), node(api.NdApply, v("X"))), true)
}

// P7.1: case, try, receive, after.
func TestChoices(t *testing.T) {
	after := node(api.NdAfter, num(1), num(2))
	two := func(p api.Node) api.Node { return cl(2, p, v("E"), grd(), num(1)) }
	none := cl(0, grd(), num(1))
	for _, p := range []api.Node{v("_"), v("C"), at("error"), at("exit"), at("throw")} {
		wantExpr(t, node(api.NdTry, num(1), two(p)), true)
		wantExpr(t, node(api.NdTry, num(1), two(v("C")), two(p), two(p)), true)
	}
	for _, p := range []api.Node{at("a"), at("errors"), at("when"), num(1), null, tuple(), tuple(at("error")), cons(at("error"), null), {K: api.NdAtom, S: "error", N: 1}, v("error"), named(api.NdCall, "error")} {
		wantExpr(t, node(api.NdTry, num(1), two(p)), false)
		wantExpr(t, node(api.NdTry, num(1), two(v("C")), two(p)), false)
	}
	for _, c := range []struct {
		n  api.Node
		ok bool
	}{
		{node(api.NdTry), false}, {node(api.NdTry, num(1)), false}, {node(api.NdTry, two(v("C"))), false}, {node(api.NdTry, num(1), one(v("C"))), false}, {node(api.NdTry, num(1), none), false}, {node(api.NdTry, num(1), two(v("C")), num(1)), false}, {node(api.NdTry, num(1), num(2), two(v("C"))), false}, {node(api.NdTry, num(1), two(v("C")), after), false},
		{node(api.NdTry, num(1), cl(3, v("C"), v("C"), v("C"), grd(), num(1))), false}, {named(api.NdTry, "a", num(1), two(v("C"))), false}, {api.Node{K: api.NdTry, N: 2, L: []api.Node{num(1), two(v("C"))}}, false}, {node(api.NdTry, grd(), two(v("C"))), false},
		{node(api.NdCase), false}, {node(api.NdCase, num(1)), false}, {node(api.NdCase, one(num(1))), false}, {node(api.NdCase, num(1), one(num(1))), true}, {node(api.NdCase, num(1), one(num(1)), one(v("_"))), true}, {node(api.NdCase, num(1), two(v("C"))), false}, {node(api.NdCase, num(1), none), false}, {node(api.NdCase, num(1), one(num(1)), none), false},
		{node(api.NdCase, num(1), num(2), one(num(1))), false}, {node(api.NdCase, num(1), one(num(1)), after), false}, {node(api.NdCase, one(num(1)), one(num(1))), false}, {named(api.NdCase, "a", num(1), one(num(1))), false}, {api.Node{K: api.NdCase, N: 1, L: []api.Node{num(1), one(num(1))}}, false}, {node(api.NdCase, num(1), fn("f", 1, one(num(1)))), false},
		{recv(0), false}, {recv(1), false}, {recv(2), false}, {recv(0, one(num(1))), true}, {recv(0, one(num(1)), one(num(2))), true}, {recv(0, after), false}, {recv(0, one(num(1)), after), false}, {recv(1, after), true}, {recv(1, one(num(1)), after), true}, {recv(1, one(num(1)), one(v("M")), after), true},
		{recv(1, one(num(1))), false}, {recv(1, after, one(num(1))), false}, {recv(1, after, after), false}, {recv(2, one(num(1)), after), false}, {recv(-1, one(num(1))), false}, {recv(2, one(num(1)), one(num(1))), false}, {recv(0, none), false}, {recv(0, two(v("C"))), false}, {recv(1, none, after), false}, {recv(1, num(1), after), false}, {recv(1, num(1)), false}, {recv(math.MaxInt, after), false}, {recv(math.MinInt, after), false},
		{recv(1, node(api.NdAfter)), false}, {recv(1, node(api.NdAfter, num(1))), false}, {recv(1, node(api.NdAfter, num(1), num(2), num(3))), true}, {recv(1, node(api.NdAfter, grd(), num(2))), false}, {recv(1, node(api.NdAfter, num(1), num(2), grd())), false}, {recv(1, named(api.NdAfter, "a", num(1), num(2))), false}, {recv(1, api.Node{K: api.NdAfter, N: 1, L: []api.Node{num(1), num(2)}}), false},
		{api.Node{K: api.NdRecv, S: "a", L: []api.Node{one(num(1))}}, false}, {api.Node{K: api.NdRecv, T: "a", L: []api.Node{one(num(1))}}, false}, {after, false}, {tuple(after), false}, {named(api.NdCall, "f", after), false},
	} {
		wantExpr(t, c.n, c.ok)
		want(t, c.n, 0, map[bool]string{true: "e"}[c.ok])
	}
}

// chain is a tree of tuples with a leaf, so deep.
func chain(deep int, leaf api.Node) api.Node {
	for range deep - 1 {
		leaf = tuple(leaf)
	}
	return leaf
}

// wide is a tuple of so many nodes, itself included.
func wide(nodes int) api.Node { return tuple(copies(num(1), nodes-1)...) }

// host is a tree in which another one stands: which calls let it be, how many nodes it adds, how much deeper it is.
type host struct {
	n           api.Node
	tell        string
	nodes, deep int
}

func hosts(n api.Node) []host {
	return []host{
		{n, "pex", 0, 0}, {in(n), "m", 5, 4}, {headed(n), "m", 6, 4}, {op("+", n, num(1)), "ex", 2, 1}, {op(">", num(1), n), "et", 2, 1}, {named(api.NdTest, "is_pid", n), "t", 1, 1},
		{grd(op(">", num(1), n)), "g", 3, 2}, {cl(0, grd(), n), "c", 2, 1}, {cl(0, n, grd(), num(1)), "", 3, 1}, {cl(1, n, grd(), num(1)), "c", 3, 1}, {named(api.NdCall, "f", n), "e", 1, 1}, {node(api.NdMatch, n, num(1)), "e", 2, 1},
	}
}

// P7.1: trees of MaxNodes nodes and of one more, MaxDepth deep and one deeper, wherever they are asked.
func TestLimits(t *testing.T) {
	for _, d := range []int{-1, 0, 1, 2, 100} {
		for i, h := range hosts(null) {
			for _, leaf := range []api.Node{num(1), v("X")} {
				g := hosts(chain(api.MaxDepth-h.deep+d, leaf))[i]
				if _, deep := modelCount(g.n); deep != api.MaxDepth+d {
					t.Error("the test's tree", deep)
				}
				wantLimit(t, g, d <= 0)
			}
			g := hosts(wide(api.MaxNodes - h.nodes + d))[i]
			if nodes, _ := modelCount(g.n); nodes != api.MaxNodes+d {
				t.Error("the test's tree", nodes)
			}
			wantLimit(t, g, d <= 0)
		}
	}
	// Both limits at once.
	n := chain(api.MaxDepth-4-1, wide(api.MaxNodes-5-(api.MaxDepth-4-2)))
	nodes, deep := modelCount(in(n))
	if nodes != api.MaxNodes || deep != api.MaxDepth {
		t.Error(nodes, deep)
	}
	want(t, in(n), 0, "m")
	wantRead(t, in(n))
}

// wantLimit holds what all calls tell of a tree that is just within the limits, or just not.
func wantLimit(t *testing.T, h host, ok bool) {
	t.Helper()
	want(t, h.n, h.n.N, map[bool]string{true: h.tell}[ok])
	nodes, deep := modelCount(h.n)
	wantSize(t, h.n, nodes, deep)
	if Same(h.n, h.n) != ok {
		t.Error("Same", nodes, deep)
	}
	if l := Vars(h.n); ok && !slices.Equal(l, modelVars(h.n)) || !ok && len(l) > 0 {
		t.Error("Vars", nodes, deep, l)
	}
	if (Text(h.n) != "") != (ok && h.tell == "m") {
		t.Error("Text", nodes, deep)
	}
}

func wantSize(t *testing.T, n api.Node, nodes, deep int) {
	t.Helper()
	for range 2 {
		if a, b := Size(n); a != min(nodes, api.MaxNodes+1) || b != min(deep, api.MaxDepth+1) {
			t.Errorf("%d %d, not %d %d", a, b, nodes, deep)
		}
	}
}

// P7.1: Size of what is deep behind many nodes, of many nodes behind what is deep, and of both.
func TestSize(t *testing.T) {
	wantSize(t, num(1), 1, 1)
	wantSize(t, api.Node{}, 1, 1)
	wantSize(t, api.Node{K: -7, N: 1, S: "x"}, 1, 1)
	wantSize(t, api.Node{K: 99, L: []api.Node{{K: 98, L: []api.Node{{}}}, {}}}, 4, 3)
	wantSize(t, tuple(num(1), tuple(num(2)), num(3)), 5, 3)
	for _, deep := range []int{2, 10, 62, 63, 64, 65, 66, 1000, 4095, 4096, 4097, 5000} {
		c := chain(deep, num(1))
		wantSize(t, c, deep, deep)
		for _, many := range []int{1, 4094, 4095, 4096, 5000} {
			w := copies(num(1), many)
			wantSize(t, tuple(append(slices.Clone(w), c)...), 1+many+deep, deep+1)
			wantSize(t, tuple(append([]api.Node{c}, w...)...), 1+many+deep, deep+1)
			wantSize(t, chain(deep, tuple(w...)), deep+many, deep+1)
		}
	}
	var l []api.Node
	for k := range 6000 {
		l = append(l, chain(k%50+1, tuple()))
	}
	wantSize(t, tuple(l...), 1<<20, 51)
	wantSize(t, tuple(copies(tuple(copies(num(1), 1000)...), 1000)...), 1<<20, 3)
	wantSize(t, tuple(copies(num(1), 1<<20)...), 1<<20, 2)
}

// P7.1, R1: trees that hold themselves, and trees whose parts stand in many places.
func TestTangled(t *testing.T) {
	self := tuple(num(1))
	self.L[0] = self
	late := tuple(append(copies(num(1), 5000), num(1))...)
	late.L[5000] = late
	each := tuple(num(1), num(1), num(1))
	each.L[0], each.L[1], each.L[2] = each, each, each
	mutual := node(api.NdCall, cons(num(1), num(2)))
	mutual.L[0].L[1] = mutual
	for _, n := range []api.Node{self, late, each, mutual, tuple(self), in(self), cl(0, grd(), each)} {
		wantSize(t, n, math.MaxInt, math.MaxInt)
		wantTangled(t, n)
	}
	twice := num(1)
	for range 60 {
		twice = tuple(twice, twice)
	}
	wantSize(t, twice, math.MaxInt, 61)
	wantTangled(t, twice)
	a, b := num(1), tuple(num(1))
	for range 50 {
		a, b = tuple(b, a, b), cons(a, tuple(b, a))
	}
	wantTangled(t, a)
	wantSize(t, a, math.MaxInt, math.MaxInt)
	l := copies(num(1), 3)
	for range 61 {
		l = []api.Node{tuple(l[:1]...), tuple(l[:2]...), tuple(l...)}
	}
	wantSize(t, tuple(l...), math.MaxInt, 63)
	l[0], l[1] = l[2], num(1)
	wantTangled(t, tuple(l...))
	// One list, of which a node has the beginning alone: what is deep stands behind that.
	row := append(copies(wide(100), 50), chain(40, num(1)))
	wantSize(t, tuple(tuple(row[:50]...), tuple(row...)), math.MaxInt, 42)
	wantSize(t, tuple(tuple(row...), tuple(row[:50]...)), math.MaxInt, 42)
	wantSize(t, tuple(tuple(row[:50]...), tuple(row[:40]...)), math.MaxInt, 4)
}

func wantTangled(t *testing.T, n api.Node) {
	t.Helper()
	want(t, n, n.N, "")
	if Text(n) != "" || Vars(n) != nil || Same(n, n) {
		t.Error("told of a tree above the limits")
	}
}

// P7.1: Same: any difference of any node, of trees that may be or not.
func TestSame(t *testing.T) {
	pool := []api.Node{mods(), tuple(num(1), tuple(v("X"), null)), remote("m", "f", num(1), at("a")), {K: -3, N: -1, S: "?", T: "!", L: []api.Node{{K: 100}, {}}}, ref("m", "f", 2)}
	for _, c := range samples() {
		pool = append(pool, c.n)
	}
	for i, a := range pool {
		for j, b := range pool {
			if got := Same(a, b); got != (i == j || reflect.DeepEqual(a, b)) {
				t.Error(show(a), show(b), got)
			}
		}
		for _, put := range []func(n api.Node) api.Node{func(n api.Node) api.Node { return n }, func(n api.Node) api.Node { return tuple(n) }, func(n api.Node) api.Node { return tuple(num(1), n, num(2)) }, in} {
			for _, b := range others(a) {
				if Same(put(a), put(b)) || Same(put(b), put(a)) {
					t.Error(show(a), show(b))
				}
			}
			if !Same(put(a), put(deepCopy(a))) {
				t.Error(show(a))
			}
		}
	}
	if !Same(api.Node{K: api.NdTuple}, api.Node{K: api.NdTuple, L: []api.Node{}}) || !Same(api.Node{K: api.NdTuple, L: make([]api.Node, 0, 9)}, api.Node{K: api.NdTuple}) {
		t.Error("nil and empty")
	}
	if Same(tuple(tuple(num(1)), num(2)), tuple(tuple(num(1), num(2)))) || Same(tuple(num(1), num(2)), tuple(num(2), num(1))) {
		t.Error("the shape")
	}
	big, small := wide(api.MaxNodes+1), wide(api.MaxNodes)
	if Same(big, small) || Same(small, big) || Same(big, big) || !Same(small, wide(api.MaxNodes)) {
		t.Error("sizes")
	}
	if Same(chain(65, null), chain(65, null)) || Same(chain(64, null), chain(65, null)) || !Same(chain(64, null), chain(64, null)) || Same(chain(64, null), chain(64, tuple())) {
		t.Error("depths")
	}
}

// others differ from a node in one thing.
func others(n api.Node) []api.Node {
	k, m, s, x, more := n, n, n, n, n
	k.K++
	m.N ^= 1 << 50
	s.S += "a"
	x.T += "a"
	more.L = append(slices.Clone(n.L), api.Node{})
	l := []api.Node{k, m, s, x, more}
	for i := range n.L {
		less := n
		less.L = slices.Delete(slices.Clone(n.L), i, i+1)
		l = append(l, less)
		for _, p := range others(n.L[i]) {
			o := n
			o.L = slices.Clone(n.L)
			o.L[i] = p
			l = append(l, o)
		}
	}
	return l
}

func deepCopy(n api.Node) api.Node {
	n.S, n.T = strings.Clone(n.S), strings.Clone(n.T)
	l := make([]api.Node, len(n.L), len(n.L)+2)
	for i, p := range n.L {
		l[i] = deepCopy(p)
	}
	n.L = l
	return n
}

// P7.2: names in the order in which they stand, each once, without _.
func TestVars(t *testing.T) {
	inner := api.Node{K: api.NdVar, S: "A", L: []api.Node{v("B"), v("A"), tuple(v("C"))}} // no tree that may be: a node ahead of its parts
	for _, c := range []struct {
		n    api.Node
		want string
	}{
		{num(1), ""}, {v("_"), ""}, {tuple(v("_"), at("a"), null), ""}, {mods(), ""}, {v("X"), "X"}, {tuple(v("X"), v("X")), "X"}, {tuple(v("Y"), v("X"), v("Y")), "Y X"}, {tuple(v("_X"), v("_"), v("__")), "_X __"},
		{cons(v("B"), tuple(v("A"), v("B"), v("C"))), "B A C"}, {tuple(tuple(v("D"), tuple(v("C"))), v("B"), v("A")), "D C B A"}, {at("x"), ""}, {named(api.NdCall, "X", v("Y")), "Y"}, {op("+", v("X1"), v("X")), "X1 X"},
		{in(node(api.NdMatch, v("Q"), node(api.NdApply, v("F"), v("Q"), v("P")))), "Q F P"}, {headed(v("H")), "H"}, {guarded(op("<", v("A"), v("B"))), "A B"},
		{node(api.NdTry, v("E"), cl(2, v("C"), v("R"), grd(named(api.NdTest, "is_atom", v("G"))), v("V"))), "E C R G V"}, {recv(1, one(v("M")), node(api.NdAfter, v("T"), v("U"))), "M T U"}, {mods(mod("a", fn("f", 1, one(v("X")), one(v("Y")))), mod("b", fn("f", 1, one(v("X")), one(v("Z"))))), "X Y Z"},
		{inner, "A B C"}, {tuple(v("B"), inner), "B A C"}, {v("x"), "x"}, {api.Node{K: 50, L: []api.Node{v("X")}}, "X"}, {api.Node{K: api.NdVar, S: "X", N: 3, T: "Y"}, "X"}, {v(strings.Repeat("X", 40)), strings.Repeat("X", 40)}, {at("X"), ""}, {api.Node{K: api.NdRef, S: "X"}, ""},
	} {
		for range 2 {
			if l := Vars(c.n); strings.Join(l, " ") != c.want {
				t.Errorf("%s: %v, not %s", show(c.n), l, c.want)
			}
		}
	}
	var l []api.Node
	var names []string
	for k := range api.MaxNodes - 1 {
		names = append(names, "V"+strconv.Itoa(k))
		l = append(l, v(names[k]))
	}
	if got := Vars(tuple(l...)); !slices.Equal(got, names) {
		t.Error(len(got))
	}
	if got := Vars(tuple(append(l, v("W"))...)); len(got) != 0 {
		t.Error(len(got))
	}
	if got := Vars(chain(64, v("X"))); len(got) != 1 {
		t.Error(got)
	}
	if got := Vars(tuple(v("Y"), chain(64, v("X")))); len(got) != 0 {
		t.Error(got)
	}
}

// P7.3: the text of each kind.
func TestTexts(t *testing.T) {
	lt := op("<", v("X"), num(1))
	two := func(p api.Node, l ...api.Node) api.Node { return cl(2, append([]api.Node{p, v("E")}, l...)...) }
	for _, c := range []struct {
		n    api.Node
		want string
	}{
		{v("X"), "X"}, {v("_"), "_"}, {num(0), "0"}, {num(12), "12"}, {num(-6), "-6"}, {num(api.MaxInt), "576460752303423487"}, {num(-api.MaxInt - 1), "-576460752303423488"}, {at("ab_C"), "ab_C"}, {null, "[]"}, {tuple(), "{}"}, {tuple(num(1)), "{1}"}, {tuple(num(1), tuple(), at("b")), "{1, {}, b}"},
		{cons(num(1), null), "[1|[]]"}, {cons(v("H"), cons(at("a"), v("T"))), "[H|[a|T]]"}, {op("+", num(1), num(-2)), "(1 + -2)"}, {op("div", op("rem", v("X"), num(2)), num(3)), "((X rem 2) div 3)"}, {op("=:=", v("X"), tuple()), "(X =:= {})"}, {op("=<", num(1), op("-", num(2), num(3))), "(1 =< (2 - 3))"},
		{node(api.NdMatch, tuple(v("X"), v("_")), node(api.NdMatch, v("Y"), num(1))), "({X, _} = (Y = 1))"}, {named(api.NdCall, "f"), "f()"}, {named(api.NdCall, "f", num(1), v("X")), "f(1, X)"}, {remote("m", "f"), "m:f()"}, {remote("m", "f", num(1), num(2)), "m:f(1, 2)"}, {node(api.NdApply, v("F")), "F()"}, {node(api.NdApply, v("F"), num(1), at("b")), "F(1, b)"},
		{ref("m", "f", 0), "fun m:f/0"}, {ref("ab", "cd", 8), "fun ab:cd/8"}, {tuple(ref("m", "f", 1)), "{fun m:f/1}"},
		{node(api.NdCase, v("X"), one(num(1))), "case X of 1 -> 1 end"}, {node(api.NdCase, named(api.NdCall, "g"), cl(1, v("Y"), grd(lt), num(1), num(2)), one(v("_"))), "case g() of Y when (X < 1) -> 1, 2; _ -> 1 end"}, {node(api.NdCase, num(1), cl(1, num(1), grd(lt, named(api.NdTest, "is_pid", v("X"))), num(2))), "case 1 of 1 when (X < 1), is_pid(X) -> 2 end"},
		{node(api.NdTry, num(1), two(at("error"), grd(), num(1))), "try 1 catch error:E -> 1 end"}, {node(api.NdTry, num(1), two(v("C"), grd(lt), num(1), num(2)), two(at("throw"), grd(), v("E"))), "try 1 catch C:E when (X < 1) -> 1, 2; throw:E -> E end"},
		{recv(0, one(v("M"))), "receive M -> 1 end"}, {recv(0, one(v("M")), cl(1, num(2), grd(lt), num(1), num(2))), "receive M -> 1; 2 when (X < 1) -> 1, 2 end"}, {recv(1, node(api.NdAfter, num(5), num(-6))), "receive after 5 -> -6 end"}, {recv(1, node(api.NdAfter, v("T"), num(1), num(2))), "receive after T -> 1, 2 end"}, {recv(1, one(v("M")), node(api.NdAfter, num(5), num(6))), "receive M -> 1 after 5 -> 6 end"}, {recv(1, one(v("M")), one(v("N")), node(api.NdAfter, num(5), num(6))), "receive M -> 1; N -> 1 after 5 -> 6 end"},
	} {
		if got := Text(in(c.n)); got != "module m.\nf() -> "+c.want+".\n" {
			t.Errorf("%q, not %q", got, c.want)
		}
		if got := Text(in(tuple(c.n, c.n))); got != "module m.\nf() -> {"+c.want+", "+c.want+"}.\n" {
			t.Errorf("%q, not %q twice", got, c.want)
		}
		wantNoText(t, c.n)
		if Pattern(c.n) && Text(headed(c.n)) != "module m.\nf("+c.want+") -> 1.\n" {
			t.Errorf("%q in a head: %q", c.want, Text(headed(c.n)))
		}
		if Guarded(c.n) && Text(guarded(named(api.NdTest, "is_list", c.n))) != "module m.\nf() when is_list("+c.want+") -> 1.\n" {
			t.Errorf("%q in a guard: %q", c.want, Text(guarded(named(api.NdTest, "is_list", c.n))))
		}
		if Test(c.n) && Text(guarded(c.n)) != "module m.\nf() when "+c.want+" -> 1.\n" {
			t.Errorf("%q as a guard: %q", c.want, Text(guarded(c.n)))
		}
	}
}

// P7.3: the text of modules and functions; nothing of what may not be.
func TestTextOfModules(t *testing.T) {
	lt := op(">", v("X"), num(1))
	for _, c := range []struct {
		n    api.Node
		want string
	}{
		{mods(), ""},
		{mods(mod("a")), "module a.\n"},
		{mods(mod("a"), mod("b"), mod("a")), "module a.\nmodule b.\nmodule a.\n"},
		{mods(mod("a", fn("f", 1, cl(1, v("X"), grd(lt), v("X"))))), "module a.\nf(X) when (X > 1) -> X.\n"},
		{mods(mod("a", fn("f", 0, cl(0, grd(), num(1)), cl(0, grd(), num(2), num(3)))), mod("b")), "module a.\nf() -> 1;\nf() -> 2, 3.\nmodule b.\n"},
		{mods(mod("a", fn("f", 2, cl(2, v("X"), tuple(), grd(), num(1))), fn("g", 0, cl(0, grd(), num(1)))), mod("b", fn("f", 2, cl(2, v("X"), v("Y"), grd(lt, lt), num(1)), cl(2, null, v("_"), grd(), num(1))))), "module a.\nf(X, {}) -> 1.\ng() -> 1.\nmodule b.\nf(X, Y) when (X > 1), (X > 1) -> 1;\nf([], _) -> 1.\n"},
		{mods(mod("a", fn("f", 8, cl(8, append(copies(v("_"), 8), grd(), num(1))...)))), "module a.\nf(_, _, _, _, _, _, _, _) -> 1.\n"},
	} {
		if Check(c.n) != api.OK || Text(c.n) != c.want {
			t.Errorf("%q, not %q", Text(c.n), c.want)
		}
		wantRead(t, c.n)
	}
	for _, c := range samples() {
		if c.n.K != api.NdMods {
			wantNoText(t, c.n)
		}
	}
	wantNoText(t, in(v("x")))
	wantNoText(t, mods(mod("a"), mod("when")))
	wantNoText(t, api.Node{N: 1, L: []api.Node{mod("a")}})
	s := Text(in(wide(api.MaxNodes - 5)))
	if len(s) != len("module m.\nf() -> {}.\n")+3*(api.MaxNodes-6)-2 {
		t.Error(len(s))
	}
}

func wantNoText(t *testing.T, n api.Node) {
	t.Helper()
	if s := Text(n); s != "" {
		t.Errorf("%s: %q", show(n), s)
	}
}

// P7.1 to P7.4: random trees and trees with one thing changed, held against the model; they read as themselves, and no two have one text.
func TestRandomTrees(t *testing.T) {
	m := maker{rand.New(rand.NewSource(7))}
	var pool []api.Node
	for _, c := range samples() {
		pool = append(pool, c.n)
	}
	texts := map[string]api.Node{}
	told := 0
	for range 2500 {
		n := m.mods()
		if Check(n) != api.OK {
			t.Fatal(show(n))
		}
		for range 6 {
			wantModel(t, n)
			if Check(n) == api.OK {
				told++
				s := Text(n)
				if o, ok := texts[s]; ok && !Same(o, n) {
					t.Errorf("two trees of %q", s)
				}
				texts[s] = n
			}
			if o := m.spoil(n, pool); Check(o) == api.OK || m.Intn(3) == 0 {
				n = o
			} else {
				wantModel(t, o)
			}
		}
	}
	if told < 5000 || len(texts) < 1500 {
		t.Error("few trees that may be", told, len(texts))
	}
	for range 4000 {
		e := m.expr(5)
		wantModel(t, e)
		wantModel(t, m.spoil(e, pool))
		wantModel(t, m.spoil(m.test(4), pool))
		wantModel(t, m.spoil(m.clause(m.Intn(4), 4), pool))
		wantModel(t, m.spoil(m.value(5, pick(m, "pattern", "guarded")), pool))
	}
}

// P7.4: of small expressions no two have one text.
func TestOneToOne(t *testing.T) {
	leaves := []api.Node{v("X"), num(1), num(-1), at("a"), null, tuple()}
	l := slices.Clone(leaves)
	for _, a := range leaves {
		l = append(l, tuple(a), named(api.NdCall, "a", a), remote("a", "a", a), node(api.NdApply, v("X"), a))
		for _, b := range leaves {
			l = append(l, tuple(a, b), cons(a, b), node(api.NdMatch, a, b), node(api.NdCase, a, cl(1, b, grd(), a)), recv(1, node(api.NdAfter, a, b)), recv(0, cl(1, a, grd(), b)), node(api.NdTry, a, cl(2, v("X"), b, grd(), a)), node(api.NdTry, a, cl(2, at("error"), b, grd(), a)))
			for _, s := range strings.Fields(modelArith + " " + modelComps) {
				l = append(l, op(s, a, b))
			}
		}
	}
	l = append(l, named(api.NdCall, "a"), remote("a", "a"), node(api.NdApply, v("X")), ref("a", "a", 1), ref("a", "a", 0))
	seen := map[string]bool{}
	for _, e := range l {
		for k, n := range []api.Node{in(e), in(tuple(e)), in(tuple(e, num(1))), in(op("-", e, e)), mods(mod("m", fn("f", 0, cl(0, grd(), e, num(1))))), mods(mod("m", fn("f", 0, cl(0, grd(), num(1)), cl(0, grd(), e))))} {
			s := Text(n)
			if s == "" || seen[strconv.Itoa(k)+s] {
				t.Errorf("%q", s)
			}
			seen[strconv.Itoa(k)+s] = true
			wantRead(t, n)
		}
	}
}

// R4: nothing that is handed in is changed, nor kept, and an answer is new memory.
func TestApart(t *testing.T) {
	n := mods(mod("a", fn("f", 1, cl(1, v("X"), grd(named(api.NdTest, "is_atom", v("Y"))), tuple(v("Z"), num(1))))))
	room := deepCopy(n)
	room.L[0].L[0].L[0].L = append(room.L[0].L[0].L[0].L, at("spare"))[:3]
	before := deepCopy(room)
	for range 2 {
		tells(room, 1)
		Size(room)
		Text(room)
		Same(room, n)
		l := Vars(room)
		if len(l) != 3 {
			t.Fatal(l)
		}
		clear(l[:cap(l)])
	}
	if !reflect.DeepEqual(room, before) || !Same(room, n) || room.L[0].L[0].L[0].L[:4][3].S != "spare" {
		t.Error("changed")
	}
	if l := Vars(room); strings.Join(l, " ") != "X Y Z" {
		t.Error(l)
	}
}

// R3: one tree, asked by many at once.
func TestAtOnce(t *testing.T) {
	m := maker{rand.New(rand.NewSource(9))}
	n := m.mods()
	s, l := Text(n), Vars(n)
	var g sync.WaitGroup
	for range 8 {
		g.Go(func() {
			for range 20 {
				if Text(n) != s || !slices.Equal(Vars(n), l) || !Same(n, n) || Check(n) != api.OK {
					t.Error("told otherwise")
				}
			}
		})
	}
	g.Wait()
}
