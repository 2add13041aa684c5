package eval

import (
	"math"
	"math/big"
	"reflect"
	"slices"
	"strconv"
	"strings"
	"testing"

	"pleach/api"
	"pleach/term"
)

var (
	comparisons = []string{"=:=", "=/=", "<", "=<", ">", ">="}
	sums        = []string{"+", "-", "*", "div", "rem"}
)

// rising are terms of all kinds, each ahead of the next one.
var rising = []string{
	"-576460752303423488", "-1", "0", "1", "576460752303423487", "a", "aa", "b", "#Ref<0>", "#Ref<1>", "fun a:a/0", "fun a:a/1", "fun a:b/0", "fun b:a/0", "<0>", "<1>", "{}", "{0}", "{a}", "{[]}", "{0,0}", "{0,1}", "{a,0}", "{0,0,0}", "[]", "[0|0]", "[0|{}]", "[0]", "[0,0]", "[0,1]", "[1|0]", "[1]", "[a]", "[[]]",
}

// wantPure holds what Pure answers; none: that it is no such built-in.
func wantPure(t *testing.T, name string, args []api.Term, out string) {
	t.Helper()
	in := roomy(args)
	for _, l := range [][]api.Term{args, in, in} {
		o, ok := Pure(name, l)
		if out == "none" {
			if ok || !reflect.ValueOf(o).IsZero() {
				t.Errorf("%s of %d: kind %d of class %d, %v", name, len(l), o.T.K, o.Class, ok)
			}
		} else if !ok || tell(o) != out {
			t.Errorf("%s %s: %s %v, not %s", name, brief(term.Text(tupleOf(l...))), brief(tell(o)), ok, brief(out))
		}
	}
	if !reflect.DeepEqual(wholly(in), wholly(roomy(args))) {
		t.Errorf("%s %d: changed", name, len(args))
	}
}

// P12.2: the built-ins that the chapter names, at right arguments and at wrong ones.
func TestBuiltIns(t *testing.T) {
	for _, r := range []struct{ name, args, out string }{
		{"element", "1;{a}", "a"}, {"element", "1;{a,b,{c}}", "a"}, {"element", "2;{a,b,{c}}", "b"}, {"element", "3;{a,b,{c}}", "{c}"}, {"element", "0;{a,b}", "error:badarg"}, {"element", "3;{a,b}", "error:badarg"}, {"element", "-1;{a,b}", "error:badarg"}, {"element", "1;{}", "error:badarg"}, {"element", "0;{}", "error:badarg"}, {"element", "576460752303423487;{a}", "error:badarg"}, {"element", "-576460752303423488;{a}", "error:badarg"}, {"element", "a;{a}", "error:badarg"}, {"element", "1;[a]", "error:badarg"}, {"element", "1;a", "error:badarg"}, {"element", "{a};1", "error:badarg"}, {"element", "#Ref<1>;{a}", "error:badarg"}, {"element", "<1>;{a}", "error:badarg"}, {"element", "1;[a|b]", "error:badarg"},
		{"length", "[]", "0"}, {"length", "[a]", "1"}, {"length", "[[1,2],{},a]", "3"}, {"length", "[a|b]", "error:badarg"}, {"length", "[a,b|c]", "error:badarg"}, {"length", "{}", "error:badarg"}, {"length", "{a,b}", "error:badarg"}, {"length", "a", "error:badarg"}, {"length", "0", "error:badarg"},
		{"hd", "[a]", "a"}, {"hd", "[{a},b]", "{a}"}, {"hd", "[a|b]", "a"}, {"hd", "[[]]", "[]"}, {"hd", "[]", "error:badarg"}, {"hd", "{a,b}", "error:badarg"}, {"hd", "a", "error:badarg"},
		{"tl", "[a]", "[]"}, {"tl", "[a,b,c]", "[b,c]"}, {"tl", "[a|b]", "b"}, {"tl", "[[]]", "[]"}, {"tl", "[]", "error:badarg"}, {"tl", "{a,b}", "error:badarg"}, {"tl", "1", "error:badarg"},
		{"tuple_size", "{}", "0"}, {"tuple_size", "{a}", "1"}, {"tuple_size", "{[],{1,2,3}}", "2"}, {"tuple_size", "[]", "error:badarg"}, {"tuple_size", "[a,b]", "error:badarg"}, {"tuple_size", "a", "error:badarg"}, {"tuple_size", "fun a:b/1", "error:badarg"},
	} {
		wantPure(t, r.name, reads(t, r.args), r.out)
	}
	for _, x := range append(rising, "{a,{b}}", term.Text(wide(api.MaxTerm))) {
		for name, class := range map[string]string{"error": "error:", "exit": "exit:", "throw": "throw:"} {
			wantPure(t, name, []api.Term{read(t, x)}, class+x)
		}
		for _, name := range []string{"hd", "tl", "length", "tuple_size"} {
			if strings.IndexAny(x, "[{") != 0 {
				wantPure(t, name, []api.Term{read(t, x)}, "error:badarg")
			}
		}
	}
	wantPure(t, "tuple_size", []api.Term{wide(api.MaxTerm)}, "255")
	wantPure(t, "element", []api.Term{num(255), wide(api.MaxTerm)}, "1")
	wantPure(t, "element", []api.Term{num(256), wide(api.MaxTerm)}, "error:badarg")
	list := "[" + strings.TrimSuffix(strings.Repeat("1,", 127), ",") + "]"
	wantPure(t, "length", []api.Term{read(t, list)}, "127")
}

// builts are the built-ins of chapter 9, with how many arguments each takes.
var builts = []api.Fn{
	{T: "self"}, {T: "spawn_link", N: 3}, {T: "link", N: 1}, {T: "monitor", N: 1}, {T: "exit", N: 1}, {T: "exit", N: 2}, {T: "error", N: 1}, {T: "throw", N: 1}, {T: "trap_exit", N: 1}, {T: "register", N: 1}, {T: "whereis", N: 1}, {T: "make_ref"}, {T: "element", N: 2}, {T: "length", N: 1}, {T: "hd", N: 1}, {T: "tl", N: 1}, {T: "tuple_size", N: 1}, {T: "send", N: 2}, {T: "out", N: 1}, {T: "now"}, {T: "call", N: 3}, {T: "cast", N: 2}, {T: "start_child", N: 2}, {T: "terminate_child", N: 2}, {T: "restart_child", N: 2}, {T: "delete_child", N: 2}, {T: "which_children", N: 1},
}

// pures are those that come to something without a process.
var pures = []api.Fn{{T: "error", N: 1}, {T: "exit", N: 1}, {T: "throw", N: 1}, {T: "element", N: 2}, {T: "length", N: 1}, {T: "hd", N: 1}, {T: "tl", N: 1}, {T: "tuple_size", N: 1}}

// P12.2: Pure of other names, and of other arities.
func TestPureNone(t *testing.T) {
	names := []string{"", "x", "Hd", "hd ", "erlang", "is_atom", "ERROR", "tuple", "size", "+", "=:="}
	for _, f := range builts {
		names = append(names, f.T)
	}
	for _, name := range names {
		for arity := range 10 {
			args := slices.Repeat([]api.Term{read(t, "[{1}]")}, arity)
			if !slices.Contains(pures, api.Fn{T: name, N: arity}) {
				wantPure(t, name, args, "none")
			} else if o, ok := Pure(name, args); !ok || o.Why != api.WhyNot {
				t.Error(name, arity, o, ok)
			}
		}
	}
	many := slices.Repeat([]api.Term{{}}, 1<<16)
	for _, name := range []string{"hd", "element", "error", "x"} {
		if o, ok := Pure(name, many); ok || !reflect.ValueOf(o).IsZero() {
			t.Error(name, "of many")
		}
	}
}

// P12.2: the built-ins in an expression: those that a process alone can do come to nothing, whatever their arguments are.
func TestBuiltInsInExpressions(t *testing.T) {
	n := mods(t, text)
	for _, f := range builts {
		for _, arg := range []string{"1", "a", "[]", "X"} {
			call := f.T + "(" + strings.TrimSuffix(strings.Repeat(arg+", ", f.N), ", ") + ")"
			out := "pure"
			if slices.Contains(pures, f) {
				o, _ := Pure(f.T, slices.Repeat([]api.Term{read(t, strings.ReplaceAll(arg, "X", "{1,2}"))}, f.N))
				out = tell(o)
			}
			steps := 1 + f.N
			wantRows(t, n, "X={1,2}", []row{{call, out, "", steps}})
			if out == "pure" {
				wantRows(t, n, "X={1,2}", []row{{"try " + call + " catch _:_ -> 1 end", out, "", steps + 1}, {"{(Y = 1), " + call + ", error(a)}", out, "", steps + 3}})
			}
		}
	}
	// By its module a built-in is none, and by a fun, too.
	for _, e := range []string{"m:hd([1|2])", "m:self()", "fun m:hd/1"} {
		wantSteps(t, given{N: n, Module: "m", E: expr(t, e)}, 9, answer{e: api.ErrArg}.none())
	}
	wantRows(t, n, "F=fun m:hd/1;G=fun m:self/0", []row{{"F([1|2])", "error:{badfun,fun m:hd/1}", "", 5}, {"G()", "error:{badfun,fun m:self/0}", "", 2}})
	for _, f := range builts {
		args := slices.Repeat([]api.Term{{}}, f.N)
		wantSteps(t, given{N: n, Module: "m", Name: f.T, Args: args}, 9, answer{e: api.ErrArg}.none())
	}
}

// wantArith holds what Arith tells, and that an operation in an expression comes to it.
func wantArith(t *testing.T, op string, a, b api.Term, out string) {
	t.Helper()
	a, b = roomy(a), roomy(b)
	if got := tell(Arith(op, a, b)); got != out {
		t.Errorf("%s %s %s: %s, not %s", brief(term.Text(a)), op, brief(term.Text(b)), got, out)
	}
	if !slices.Contains(comparisons, op) && !slices.Contains(sums, op) {
		return
	}
	e := api.Node{K: api.NdOp, S: op, L: []api.Node{{K: api.NdVar, S: "A"}, {K: api.NdVar, S: "B"}}}
	g := given{E: e, L: []api.Bind{{S: "A", T: a}, {S: "B", T: b}}}
	if got := g.run(3); got.out != out || got.left != 0 || got.e != api.OK {
		t.Errorf("%s: %+v, not %s", g.text(), got, out)
	}
}

// edges are integers at the bounds, and about the roots of those.
var edges = []int{-api.MaxInt - 1, -api.MaxInt, -api.MaxInt / 2, -1 << 30, -759250125, -1<<29 - 1, -1 << 29, -7, -2, -1, 0, 1, 2, 3, 7, 1 << 29, 1<<29 + 1, 759250124, 759250125, 1 << 30, api.MaxInt/2 + 1, api.MaxInt - 1, api.MaxInt}

// exact tells what an operation of two integers comes to, by numbers without bounds.
func exact(op string, a, b int) string {
	x, y, z := big.NewInt(int64(a)), big.NewInt(int64(b)), new(big.Int)
	if b == 0 && (op == "div" || op == "rem") {
		return "error:badarith"
	}
	switch op {
	case "+":
		z.Add(x, y)
	case "-":
		z.Sub(x, y)
	case "*":
		z.Mul(x, y)
	case "div":
		z.Quo(x, y)
	case "rem":
		z.Rem(x, y)
	}
	if !z.IsInt64() || z.Int64() > api.MaxInt || z.Int64() < -api.MaxInt-1 {
		return "error:system_limit"
	}
	return strconv.FormatInt(z.Int64(), 10)
}

// P12.2: sums at the bounds, and one past them; a quotient by 0.
func TestSums(t *testing.T) {
	for _, op := range sums {
		seen := map[bool]int{}
		for _, a := range edges {
			for _, b := range edges {
				out := exact(op, a, b)
				seen[strings.Contains(out, "limit")]++
				wantArith(t, op, num(a), num(b), out)
			}
		}
		if seen[false] < 100 || op != "rem" && seen[true] < 1 {
			t.Error(op, seen)
		}
	}
	for _, r := range []struct {
		op   string
		a, b int
		out  string
	}{
		{"+", api.MaxInt, 0, "576460752303423487"}, {"+", api.MaxInt, 1, "error:system_limit"}, {"-", -api.MaxInt, 1, "-576460752303423488"}, {"-", -api.MaxInt - 1, 1, "error:system_limit"}, {"*", 1 << 30, 1 << 29, "error:system_limit"}, {"*", -1 << 30, 1 << 29, "-576460752303423488"}, {"div", -api.MaxInt - 1, -1, "error:system_limit"}, {"rem", -api.MaxInt - 1, -1, "0"}, {"div", 1, 0, "error:badarith"}, {"rem", 0, 0, "error:badarith"}, {"div", -7, 2, "-3"}, {"rem", -7, 2, "-1"},
	} {
		wantArith(t, r.op, num(r.a), num(r.b), r.out)
	}
}

// P12.2: operands that are no integers, comparisons of all terms, other operations.
func TestArith(t *testing.T) {
	for i, x := range rising {
		for j, y := range rising {
			a, b := read(t, x), read(t, y)
			for k, says := range []bool{i == j, i != j, i < j, i <= j, i > j, i >= j} {
				wantArith(t, comparisons[k], a, b, strconv.FormatBool(says))
			}
			for _, op := range sums {
				out := "error:badarith"
				if a.K == api.KInt && b.K == api.KInt {
					out = exact(op, a.N, b.N)
				}
				wantArith(t, op, a, b, out)
			}
			for _, op := range []string{"", "x", "/", "==", "/=", "<=", "=>", "=", "++", "and", "DIV", "+ ", "is_atom"} {
				wantArith(t, op, a, b, "error:badarith")
			}
		}
	}
}

// round is a tuple that holds itself.
func round() api.Term {
	l := make([]api.Term, 1)
	l[0] = tupleOf(l...)
	return l[0]
}

// nested is a tuple of so many nodes in one another.
func nested(n int) api.Term {
	x := tupleOf()
	for range n - 1 {
		x = tupleOf(x)
	}
	return x
}

// noTerms are terms that may not be.
func noTerms() []api.Term {
	one, two, three := []api.Term{num(1)}, []api.Term{num(1), num(2)}, []api.Term{num(1), num(2), num(3)}
	l := []api.Term{
		num(api.MaxInt + 1), num(-api.MaxInt - 2), num(math.MinInt), {S: "a"}, {T: "a"}, {L: one},
		{K: api.KAtom}, {K: api.KAtom, S: "A"}, {K: api.KAtom, S: "_"}, {K: api.KAtom, S: "a-"}, {K: api.KAtom, S: strings.Repeat("a", 33)}, {K: api.KAtom, S: "a", N: 1},
		{K: api.KRef, N: -1}, {K: api.KRef, N: api.MaxInt + 1}, {K: api.KPid, N: -1}, {K: api.KPid, N: api.MaxInt + 1},
		{K: api.KFun, S: "a"}, {K: api.KFun, S: "a", T: "b", N: -1}, {K: api.KFun, S: "a", T: "b", N: api.MaxArity + 1},
		{K: api.KTuple, N: 1}, {K: api.KTuple, S: "a"}, {K: api.KNil, L: one}, {K: api.KNil, T: "a"}, {K: api.KCons}, {K: api.KCons, L: one}, {K: api.KCons, L: three},
		{K: -1}, {K: math.MinInt8}, {K: api.KCons + 1}, {K: math.MaxInt8, L: two},
	}
	for _, x := range slices.Clone(l) {
		l = append(l, tupleOf(num(1), x), api.Term{K: api.KCons, L: []api.Term{x, num(1)}}, api.Term{K: api.KCons, L: []api.Term{num(1), x}})
	}
	return append(l, wide(api.MaxTerm+1), wide(1<<16), nested(api.MaxTerm+1), nested(1<<12), round())
}

// P12.2: Arith and Pure of what is no term.
func TestNoTerms(t *testing.T) {
	for i, x := range noTerms() {
		for _, op := range append(append([]string{"", "x"}, comparisons...), sums...) {
			for _, l := range [][]api.Term{{x, num(1)}, {num(1), x}, {x, x}, {x, read(t, "{a}")}} {
				if o := Arith(op, l[0], l[1]); tell(o) != "error:badarith" {
					t.Errorf("%d, %s: %s", i, op, tell(o))
				}
			}
		}
		for _, f := range builts {
			for at := range f.N {
				args := slices.Repeat([]api.Term{read(t, "[1]")}, f.N)
				args[at] = x
				if o, ok := Pure(f.T, args); ok || !reflect.ValueOf(o).IsZero() {
					t.Errorf("%d, %s at %d: class %d, %v", i, f.T, at, o.Class, ok)
				}
			}
		}
	}
}
