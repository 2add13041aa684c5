package eval

import (
	"reflect"
	"slices"
	"strings"
	"testing"

	"pleach/api"
	"pleach/ast"
	"pleach/parse"
	"pleach/term"
)

// mods is the tree of a text.
func mods(t *testing.T, s string) api.Node {
	t.Helper()
	n, f := parse.Mods(s)
	if f.E != api.OK {
		t.Fatalf("%q: %v", s, f)
	}
	return n
}

// expr is the expression of a text.
func expr(t *testing.T, s string) api.Node {
	t.Helper()
	n, f := parse.Expr(s)
	if f.E != api.OK {
		t.Fatalf("%q: %v", s, f)
	}
	return n
}

// read is the term of a text.
func read(t *testing.T, s string) api.Term {
	t.Helper()
	x, used, e := term.Read(s)
	if e != api.OK || used != len(s) {
		t.Fatalf("%q: %v at %d", s, e, used)
	}
	return x
}

// reads are those of a text of several, with ; between.
func reads(t *testing.T, s string) []api.Term {
	t.Helper()
	var l []api.Term
	for p := range strings.SplitSeq(s, ";") {
		if p != "" {
			l = append(l, read(t, p))
		}
	}
	return l
}

// binds are those of a text such as X=1;Y={a}.
func binds(t *testing.T, s string) []api.Bind {
	t.Helper()
	var l []api.Bind
	for p := range strings.SplitSeq(s, ";") {
		if p != "" {
			name, x, _ := strings.Cut(p, "=")
			l = append(l, api.Bind{S: name, T: read(t, x)})
		}
	}
	return l
}

func num(n int) api.Term { return api.Term{K: api.KInt, N: n} }

func word(s string) api.Term { return api.Term{K: api.KAtom, S: s} }

func tupleOf(l ...api.Term) api.Term { return api.Term{K: api.KTuple, L: l} }

// wide is a tuple of so many nodes.
func wide(n int) api.Term { return tupleOf(slices.Repeat([]api.Term{num(1)}, n-1)...) }

// tell tells what came: a value, class:term, or why not.
func tell(o api.Out) string {
	s := term.Text(o.T)
	switch {
	case o.Class < api.ClNone || o.Class > api.ClThrow || o.Why < api.WhyNot || o.Why > api.WhyPure:
		return "neither"
	case o.Why != api.WhyNot && o.Class == api.ClNone && reflect.ValueOf(o.T).IsZero():
		return [...]string{"", "fuel", "deep", "pure"}[o.Why]
	case o.Why != api.WhyNot || s == "":
		return "wrong"
	}
	return [...]string{"", "error:", "exit:", "throw:"}[o.Class] + s
}

// show tells names, and their terms.
func show(l []api.Bind) string {
	var s []string
	for _, b := range l {
		s = append(s, b.S+"="+term.Text(b.T))
	}
	return strings.Join(s, ";")
}

func brief(s string) string { return s[:min(len(s), 200)] }

// roomy is the same in new memory, with something behind each end.
func roomy[T any](x T) T { return copied(reflect.ValueOf(x), true).Interface().(T) }

// wholly is the same in new memory, with what stands behind the ends ahead of them.
func wholly[T any](x T) T { return copied(reflect.ValueOf(x), false).Interface().(T) }

func copied(v reflect.Value, room bool) reflect.Value {
	to := reflect.New(v.Type()).Elem()
	to.Set(v)
	switch v.Kind() {
	case reflect.Struct:
		for i := range v.NumField() {
			to.Field(i).Set(copied(v.Field(i), room))
		}
	case reflect.Slice:
		if !room {
			v = v.Slice(0, v.Cap())
		}
		to.Set(reflect.MakeSlice(v.Type(), v.Len()+1, v.Len()+1))
		for i := range v.Len() {
			to.Index(i).Set(copied(v.Index(i), room))
		}
		to.Index(v.Len()).FieldByName("S").SetString("behind")
		return to.Slice(0, v.Len())
	}
	return to
}

// given is what a call is given: args of Call, an expression and names of Expr.
type given struct {
	N            api.Node
	Module, Name string
	Args         []api.Term
	E            api.Node
	L            []api.Bind
}

// answer is what a call answers.
type answer struct {
	out  string
	l    string
	left int
	e    api.Errno
}

func (g given) text() string {
	if g.Name != "" {
		return brief(g.Module + ":" + g.Name + " " + term.Text(tupleOf(g.Args...)))
	}
	n := api.Node{K: api.NdMods, L: []api.Node{{K: api.NdMod, S: "m", L: []api.Node{{K: api.NdFun, S: "f", L: []api.Node{{K: api.NdClause, L: []api.Node{{K: api.NdGuard}, g.E}}}}}}}}
	return brief(strings.TrimPrefix(ast.Text(n), "module m.\nf() -> ") + "under " + show(g.L))
}

// run calls Expr, or Call, if there is a name.
func (g given) run(steps int) answer {
	if g.Name != "" {
		o, left, e := Call(g.N, g.Module, g.Name, g.Args, steps)
		return answer{tell(o), show(g.L), left, e}
	}
	o, l, left, e := Expr(g.N, g.Module, g.E, g.L, steps)
	a := answer{tell(o), show(l), left, e}
	// The list of names is the caller's.
	_ = append(l, api.Bind{S: "Z"})
	clear(l)
	return a
}

// wantSteps holds what a call answers with so many steps, the same again and again, with room behind what is handed in, too, and that it changes nothing of that.
func wantSteps(t *testing.T, g given, steps int, want answer) {
	t.Helper()
	in := roomy(g)
	for i, g := range []given{g, g, in, in} {
		if got := g.run(steps); got != want {
			t.Errorf("%s with %d (%d): %+v, not %+v", g.text(), steps, i, got, want)
			return
		}
	}
	if !reflect.DeepEqual(wholly(in), wholly(roomy(g))) {
		t.Errorf("%s: changed", g.text())
	}
}

// want holds what a call comes to that takes so many steps: just enough, more, and each number that is too few.
func want(t *testing.T, g given, out, l string, steps int) {
	t.Helper()
	for _, more := range []int{0, 1, most - steps} {
		wantSteps(t, g, steps+more, answer{out: out, l: l, left: more})
	}
	for few := range steps {
		if got := g.run(few); got != (answer{out: "fuel", l: show(g.L)}) {
			t.Errorf("%s with %d, which are too few: %+v", g.text(), few, got)
			return
		}
	}
}

// row is an expression, what it comes to, the names that come behind those that there were, the steps that it takes.
type row struct {
	e, out, l string
	steps     int
}

// wantRows holds what expressions come to under names.
func wantRows(t *testing.T, n api.Node, names string, rows []row) {
	t.Helper()
	for _, r := range rows {
		behind := strings.Trim(names+";"+r.l, ";")
		want(t, given{N: n, Module: "m", E: expr(t, r.e), L: binds(t, names)}, r.out, behind, r.steps)
	}
}

// text has functions for most tests.
const text = "module m. id(X) -> X. two(X, Y) -> {X, Y}. same(X, X) -> X. one(_) -> 1. seven() -> 7. up(N) when (N > 0) -> a, (N + 1). bad() -> error(bad). stop() -> exit(bad). ball() -> throw(bad). take() -> receive X -> X end. only(1) -> one. eight(A, B, C, D, E, F, G, H) -> {H, G, F, E, D, C, B, A}. module o. id(X) -> {o, X}. two(X, Y) -> id({X, Y}). home(X) -> m:id(X). ref() -> fun m:two/2."

// P12.2: each kind of expression, in one another; how many steps it takes; the names behind it.
func TestKinds(t *testing.T) {
	wantRows(t, mods(t, text), "", []row{
		{"1", "1", "", 1}, {"-1", "-1", "", 1}, {"0", "0", "", 1}, {"576460752303423487", "576460752303423487", "", 1}, {"-576460752303423488", "-576460752303423488", "", 1},
		{"a", "a", "", 1}, {"x0_Y", "x0_Y", "", 1}, {"[]", "[]", "", 1}, {"fun m:id/1", "fun m:id/1", "", 1}, {"fun o:two/2", "fun o:two/2", "", 1}, {"fun m:seven/0", "fun m:seven/0", "", 1},
		{"{}", "{}", "", 1}, {"{1}", "{1}", "", 2}, {"{1, a, []}", "{1,a,[]}", "", 4}, {"{{{}}, {}}", "{{{}},{}}", "", 4},
		{"[1|2]", "[1|2]", "", 3}, {"[1|[2|[]]]", "[1,2]", "", 5}, {"[[]|{}]", "[[]|{}]", "", 3}, {"[{1}|[a|b]]", "[{1},a|b]", "", 6},
		{"(1 + 2)", "3", "", 3}, {"((7 div 2) * (7 rem -4))", "9", "", 7}, {"(1 - (2 - 3))", "2", "", 5}, {"((1 - 2) - 3)", "-4", "", 5},
		{"(1 < 2)", "true", "", 3}, {"(a =:= {})", "false", "", 3}, {"((1 < 2) =:= true)", "true", "", 5},
		{"(X = 1)", "1", "X=1", 2}, {"(_ = 1)", "1", "", 2}, {"(1 = 1)", "1", "", 2}, {"(X = (Y = 1))", "1", "Y=1;X=1", 3}, {"({X, [_|Y], X} = {1, [a|[b|[]]], 1})", "{1,[a,b],1}", "X=1;Y=[b]", 9},
		{"id(a)", "a", "", 3}, {"m:id(a)", "a", "", 3}, {"o:id(a)", "{o,a}", "", 5}, {"two(1, id(2))", "{1,2}", "", 8}, {"seven()", "7", "", 2}, {"o:two(1, 2)", "{o,{1,2}}", "", 10}, {"o:home(1)", "1", "", 5}, {"same({1}, {1})", "{1}", "", 6}, {"one(one(2))", "1", "", 5}, {"up(1)", "2", "", 6}, {"eight(1, 2, 3, 4, 5, 6, 7, 8)", "{8,7,6,5,4,3,2,1}", "", 18},
		{"hd([1|2])", "1", "", 4}, {"length([])", "0", "", 2}, {"element(1, {tl([1|2])})", "2", "", 7},
		{"{(F = fun m:two/2), F(1, F)}", "{fun m:two/2,{1,fun m:two/2}}", "F=fun m:two/2", 10}, {"{(F = o:ref()), F(1, 2)}", "{fun m:two/2,{1,2}}", "F=fun m:two/2", 11}, {"{(F = fun m:seven/0), F()}", "{fun m:seven/0,7}", "F=fun m:seven/0", 6}, {"{(F = fun o:id/1), id(F(1))}", "{fun o:id/1,{o,1}}", "F=fun o:id/1", 11},
		{"case 1 of X -> {X, X} end", "{1,1}", "", 5}, {"case {1, 2} of {2, X} -> X; {X, 3} -> X; {X, Y} -> two(Y, X) end", "{2,1}", "", 10}, {"case case 1 of 1 -> 2 end of 2 -> a, b, c end", "c", "", 7},
		{"try 1 catch _:_ -> 2 end", "1", "", 2}, {"try error(a) catch C:X -> {C, X} end", "{error,a}", "", 6}, {"try bad() catch error:bad -> 1, 2 end", "2", "", 6}, {"try try throw(1) catch exit:_ -> 2 end catch _:X -> (X + 2) end", "3", "", 7},
		{"{(X = 1), [(Y = {X})|Y], (Y =:= {1}), case X of Y -> 1; X -> id(X) end}", "{1,[{1}|{1}],true,1}", "X=1;Y={1}", 17},
		{"receive X -> X end", "pure", "", 1}, {"receive X -> X after 0 -> 1 end", "pure", "", 1}, {"receive after 0 -> 1 end", "pure", "", 1}, {"receive after error(a) -> 1 end", "pure", "", 1}, {"take()", "pure", "", 2},
		{"bad()", "error:bad", "", 3}, {"stop()", "exit:bad", "", 3}, {"ball()", "throw:bad", "", 3},
	})
}

// P12.2: names that are bound ahead; the first one of a name counts.
func TestVariables(t *testing.T) {
	n := mods(t, text)
	for _, x := range []string{"1", "a", "#Ref<7>", "fun m:id/1", "fun q:nope/3", "<0>", "{1,{}}", "[]", "[1|2]"} {
		for _, name := range []string{"X", "Y0_z", "_X", "__", "A" + strings.Repeat("9", 31)} {
			for _, names := range []string{name + "=" + x, "B=1;" + name + "=" + x + ";C={}", name + "=" + x + ";" + name + "=0;" + name + "=" + x} {
				wantRows(t, n, names, []row{{name, x, "", 1}, {"{" + name + ", [" + name + "|1]}", "{" + x + ",[" + x + "|1]}", "", 5}, {"(Z = id(" + name + "))", x, "Z=" + x, 4}, {"(" + name + " = " + name + ")", x, "", 2}, {"(" + name + " = {0})", "error:{badmatch,{0}}", "", 3}})
			}
		}
	}
	wantRows(t, n, "F=fun m:two/2;G=fun o:ref/0;N=9;F=1", []row{{"F(N, (M = 8))", "{9,8}", "M=8", 8}, {"{F(1, 2), G()}", "{{1,2},fun m:two/2}", "", 11}})
}

// outcomes are expressions that come to no value, what they come to, and how many steps they take.
var outcomes = []row{
	{"error(a)", "error:a", "", 2}, {"exit({b})", "exit:{b}", "", 3}, {"throw(c)", "throw:c", "", 2}, {"self()", "pure", "", 1}, {"receive X -> X end", "pure", "", 1}, {"bad()", "error:bad", "", 3}, {"hd(1)", "error:badarg", "", 2}, {"(1 div 0)", "error:badarith", "", 3}, {"(3 = 4)", "error:{badmatch,4}", "", 2}, {"case 3 of 4 -> 1 end", "error:{case_clause,3}", "", 2}, {"only(2)", "error:function_clause", "", 2}, {"X9(1)", "error:{badfun,9}", "", 3}, {"send(1, 2)", "pure", "", 3},
}

// P12.2: parts are gone over from left to right; the first one that does not come to a value is what the whole comes to.
func TestOrder(t *testing.T) {
	n := mods(t, text)
	for shape, ahead := range map[string]int{
		"{$1, $2}": 1, "[$1|$2]": 1, "($1 + $2)": 1, "($1 =:= $2)": 1, "two($1, $2)": 1, "o:two($1, $2)": 1, "F9($1, $2)": 2, "X9($1, $2)": 2, "send($1, $2)": 1, "element($1, $2)": 1, "({Q, R} = {$1, $2})": 2, "(7 = {$1, $2})": 2, "case $1 of 1 -> $2; _ -> $2 end": 1, "case $1 of 7 -> $2 end": 1, "case 0 of _ -> $1, $2 end": 2, "{{{$1}}, $2}": 3, "error({$1, $2})": 2, "call($1, $2, $1)": 1, "try {$1, $2} catch exit:none -> 0 end": 2, "try error(0) catch _:_ -> $1, $2 end": 3, "{(A = 1), {(B = A), $1}, $2}": 6,
	} {
		for _, a := range outcomes {
			for _, b := range outcomes {
				e := strings.NewReplacer("$1", a.e, "$2", b.e).Replace(shape)
				wantOut(t, n, e, a.out, ahead+a.steps)
			}
			if strings.Contains(shape, "of 7") {
				continue
			}
			e := strings.NewReplacer("$1", "8", "$2", a.e).Replace(shape)
			wantOut(t, n, e, a.out, ahead+1+a.steps)
		}
	}
}

// wantOut holds what an expression that comes to no value comes to, and leaves of its steps.
func wantOut(t *testing.T, n api.Node, e, out string, steps int) {
	t.Helper()
	names := "X9=9;F9=fun m:two/2"
	g := given{N: n, Module: "m", E: expr(t, e), L: binds(t, names)}
	for few, want := range map[int]answer{steps - 1: {out: "fuel", l: names}, steps: {out: out, l: names}, steps + 9: {out: out, l: names, left: 9}} {
		if got := g.run(few); got != want {
			t.Errorf("%s with %d: %+v, not %+v", e, few, got, want)
		}
	}
}

// P12.2: the parts of an operation, an application or a built-in that comes to an exception by itself are gone over all the same, and ahead of that.
func TestPartsAhead(t *testing.T) {
	wantRows(t, mods(t, text), "X9=9", []row{
		{"(a + (1 div 0))", "error:badarith", "", 5}, {"(a + throw(1))", "throw:1", "", 4}, {"X9(throw(1))", "throw:1", "", 4}, {"element(0, throw(1))", "throw:1", "", 4}, {"only((Y = 2))", "error:function_clause", "", 3}, {"self()", "pure", "", 1}, {"out(throw(1))", "throw:1", "", 3}, {"spawn_link(m, id, throw(1))", "throw:1", "", 5}, {"error(throw(1))", "throw:1", "", 3}, {"(a = (Y = b))", "error:{badmatch,b}", "", 3}, {"case (Y = b) of a -> throw(1) end", "error:{case_clause,b}", "", 3},
	})
}

// P12.1, P12.2: steps, from none to as many as may be.
func TestStepsLeft(t *testing.T) {
	n := mods(t, text+" module p. many(0) -> 0; many(N) -> many((N - 1)), many((N - 1)). ")
	for _, steps := range []int{0, 1, 2, 3, 1000, most - 1, most} {
		left := max(0, steps-1)
		out := "7"
		if steps == 0 {
			out = "fuel"
		}
		wantSteps(t, given{N: n, Module: "m", Name: "seven"}, steps, answer{out: out, left: left})
		wantSteps(t, given{N: n, Module: "x", E: expr(t, "7")}, steps, answer{out: out, left: left})
	}
	for _, steps := range []int{-1, -1 << 63, most + 1, 1<<63 - 1} {
		wantSteps(t, given{N: n, Module: "m", Name: "seven"}, steps, answer{e: api.ErrArg}.none())
		wantSteps(t, given{N: n, Module: "m", E: expr(t, "7")}, steps, answer{e: api.ErrArg}.none())
		wantSteps(t, given{N: n, Module: "m", E: expr(t, "(Y = X)"), L: binds(t, "X=1")}, steps, answer{e: api.ErrArg}.none())
	}
	// many(N) takes twice as many as many(N - 1), and 8 more; many(0) takes one.
	for deep := range 13 {
		steps := 9<<deep - 8
		wantSteps(t, given{N: n, Module: "p", Name: "many", Args: []api.Term{num(deep)}}, steps, answer{out: "0"})
		wantSteps(t, given{N: n, Module: "p", Name: "many", Args: []api.Term{num(deep)}}, steps-1, answer{out: "fuel"})
	}
	wantSteps(t, given{N: n, Module: "p", Name: "many", Args: []api.Term{num(13)}}, most, answer{out: "fuel"})
}

// none is the same where nothing is told but an error.
func (a answer) none() answer {
	a.out, a.l, a.left = "0", "", 0
	return a
}
