package guard

import (
	"slices"
	"strings"
	"testing"

	"pleach/api"
	"pleach/ast"
)

// ordered tells what a comparison says of two things of a row, by their places.
func ordered(s string, i, j int) bool {
	return map[string]bool{"=:=": i == j, "=/=": i != j, "<": i < j, "=<": i <= j, ">": i > j, ">=": i >= j}[s]
}

// P11.2: each comparison between each two terms, of all kinds.
func TestComparisons(t *testing.T) {
	for i, x := range rising {
		for j, y := range rising {
			l := []api.Bind{{S: "A", T: read(t, x)}, {S: "B", T: read(t, y)}}
			for _, s := range comparisons {
				wantTest(t, op(s, variable("A"), variable("B")), l, ordered(s, i, j))
				wantTest(t, op(s, variable("B"), variable("A")), l, ordered(s, j, i))
				wantTest(t, op(s, tuple(number(1), variable("A")), tuple(number(1), variable("B"))), l, ordered(s, i, j))
			}
		}
	}
}

// P11.2: the same where no name stands.
func TestComparisonsOfNodes(t *testing.T) {
	rising := []string{"-576460752303423488", "-1", "(1 - 1)", "(1 * 1)", "7", "576460752303423487", "a", "aa", "b", "{}", "{0}", "{(0 + 1)}", "{a}", "{0, 0}", "[]", "[0|[]]", "[0|[0|[]]]", "[(3 - 2)|0]", "[1|[]]"}
	for i, x := range rising {
		for j, y := range rising {
			for _, s := range comparisons {
				wantTest(t, op(s, expr(t, x), expr(t, y)), nil, ordered(s, i, j))
			}
		}
	}
}

// P11.2: each is_ word at each kind of term.
func TestWords(t *testing.T) {
	of := map[int8]string{api.KInt: "is_integer", api.KAtom: "is_atom", api.KRef: "is_reference", api.KFun: "is_function", api.KPid: "is_pid", api.KTuple: "is_tuple", api.KNil: "is_list", api.KCons: "is_list"}
	seen := map[int8]bool{}
	for _, x := range append(slices.Clone(rising), "is_atom", "[a|b]", "[1,2,3]", "{[]}", "[<1>]", "{is_pid}") {
		b := api.Bind{S: "X", T: read(t, x)}
		seen[b.T.K] = true
		for _, w := range kindWords {
			wantTest(t, is(w, variable("X")), []api.Bind{b, {S: "X", T: read(t, "a")}}, of[b.T.K] == w)
			wantTest(t, is(w, variable("X")), []api.Bind{{S: "Y"}, b}, of[b.T.K] == w)
			wantTest(t, is(w, tuple(variable("X"))), []api.Bind{b}, w == "is_tuple")
			wantTest(t, is(w, api.Node{K: api.NdCons, L: []api.Node{variable("X"), variable("X")}}), []api.Bind{b}, w == "is_list")
		}
	}
	if len(seen) != len(of) {
		t.Error(seen)
	}
	for s, w := range map[string]string{"1": "is_integer", "-1": "is_integer", "(1 + 2)": "is_integer", "(1 - 2)": "is_integer", "(0 * 2)": "is_integer", "a": "is_atom", "is_list": "is_atom", "[]": "is_list", "[1|2]": "is_list", "[1|[]]": "is_list", "{}": "is_tuple", "{[]}": "is_tuple", "{1, 2}": "is_tuple"} {
		for _, word := range kindWords {
			wantTest(t, is(word, expr(t, s)), nil, w == word)
			wantTest(t, is(word, expr(t, s)), []api.Bind{}, w == word)
		}
	}
}

// P11.2: tests one of whose expressions has no value, =/= likewise.
func TestWithoutValue(t *testing.T) {
	l := binds(t, "X=3;A=a;_=1")
	for _, s := range noValues {
		none := expr(t, s)
		for _, n := range []api.Node{none, tuple(none), tuple(variable("X"), none), {K: api.NdCons, L: []api.Node{none, number(1)}}, op("-", number(1), none)} {
			for _, with := range []string{"X", "A", "1", "[]", "{}", "{Z}", s} {
				for _, c := range comparisons {
					wantTest(t, op(c, n, expr(t, with)), l, false)
					wantTest(t, op(c, expr(t, with), n), l, false)
				}
			}
			for _, w := range kindWords {
				wantTest(t, is(w, n), l, false)
			}
		}
	}
}

// P11.2: guards of no test, of one, of many.
func TestHolds(t *testing.T) {
	for _, l := range [][]api.Bind{nil, {}, binds(t, "X=1"), binds(t, "_={};X=1;X=2")} {
		for _, g := range []api.Node{guard(), {K: api.NdGuard}, {K: api.NdGuard, L: make([]api.Node, 0, 3)}} {
			if !Holds(g, l) {
				t.Error(g, show(l))
			}
		}
	}
	for s, want := range map[string]bool{
		"(X > 2), is_integer(X)": true, "((X + a) > 2)": false, "((X + a) =/= 2)": false, "is_integer(X), (X > 2)": true, "(X > 3), is_integer(X)": false, "(X > 2), is_atom(X)": false,
		"is_integer(X)": true, "is_atom(X)": false, "(X =:= 3)": true, "(X =:= 4)": false, "(X =:= Y)": false, "(Y =:= Y)": false, "(Y =/= X)": false, "(_ =:= _)": false, "(_ =/= 1)": false, "is_integer(_)": false, "is_atom(Y)": false,
		"(X =:= 3), (X =:= 3), (X =:= 3)": true, "(X =:= 3), (X =:= 3), (X =:= 4)": false, "(X =:= 3), (X =:= 4), (X =:= 3)": false, "(X =:= 4), (X =:= 3), (X =:= 3)": false, "(X =:= 4), (X =:= 5)": false,
		"is_integer(X), (Y =:= Y)": false, "(Y =:= Y), is_integer(X)": false, "({X, [X|X]} =:= {3, [3|3]}), ((X * X) =< 9), (X =/= x), (x > X), is_list([X|X])": true,
	} {
		wantHolds(t, s, "X=3", want)
		wantHolds(t, s, "X=3;X=4;Z=5", want)
		wantHolds(t, s, "_=3;X=3;_=3", want)
	}
}

// P11.2: guards as great as they may be.
func TestGreatGuards(t *testing.T) {
	l := binds(t, "X=3")
	yes, no := is("is_integer", variable("X")), is("is_atom", variable("X"))
	all := slices.Repeat([]api.Node{yes}, (api.MaxNodes-1)/2)
	if !Holds(guard(all...), l) {
		t.Error("all hold")
	}
	for _, at := range []int{0, 1, 1000, len(all) - 1} {
		some := slices.Clone(all)
		some[at] = no
		if Holds(guard(some...), l) {
			t.Error(at)
		}
	}
	great := op("=:=", tuple(), tuple())
	great.L[0].L = slices.Repeat([]api.Node{op("+", number(0), variable("X"))}, 255)
	great.L[1].L = slices.Repeat([]api.Node{number(3)}, 255)
	if !Test(great, l) || !Holds(guard(great, great), l) {
		t.Error("two tuples of 256 nodes")
	}
}

// P11.3: a guard holds just if its tests do, in whatever order.
func TestWhateverOrder(t *testing.T) {
	l := binds(t, "X=3;Y={a};P=<1>;X=a")
	texts := []string{"(X > 2)", "is_integer(X)", "is_tuple(Y)", "({a} =:= Y)", "is_pid(P)", "(P =/= X)", "(X > 3)", "is_atom(X)", "(Z =/= X)", "((X + Y) =/= 1)", "is_atom(_)"}
	var tests []api.Node
	for _, s := range texts {
		tests = append(tests, whens(t, s).L[0])
	}
	for set := range 1 << len(tests) {
		var some []api.Node
		all := true
		for i, n := range tests {
			if set>>i&1 == 1 {
				some = append(some, n)
				all = all && Test(n, l)
			}
		}
		if all != (set < 1<<6) {
			t.Error(set, all)
		}
		for i := range some {
			turned := slices.Concat(some[i:], some[:i])
			back := slices.Clone(turned)
			slices.Reverse(back)
			if Holds(guard(turned...), l) != all || Holds(guard(back...), l) != all {
				t.Error(set, i, all)
			}
		}
	}
}

// P11.3: binds of names that do not stand in it change nothing, wherever they are put.
func TestOtherNames(t *testing.T) {
	for _, s := range []string{"(X > 2), is_integer(X)", "(X =:= Y)", "is_tuple({X, Y}), (Y < X)", "(Z =/= 1)", "(_ =/= 1)", "(1 < 2)", "((X - Y) =:= 1), is_atom(A)"} {
		g := whens(t, s)
		l := binds(t, "X=3;Y=2;A=a;X=4;Y=3")
		want := Holds(g, l)
		names := ast.Vars(g)
		for _, name := range []string{"X", "Y", "Z", "A", "B", "_B", "_", "x", "", strings.Repeat("A", 40)} {
			if slices.Contains(names, name) {
				continue
			}
			// A name that stands in no guard of its own may go, too.
			without := slices.DeleteFunc(slices.Clone(l), func(b api.Bind) bool { return b.S == name })
			wantSame(t, g, l, without, want)
			for at := range len(l) + 1 {
				for _, x := range rising {
					wantSame(t, g, l, slices.Insert(slices.Clone(l), at, api.Bind{S: name, T: read(t, x)}), want)
				}
			}
		}
	}
}

// wantSame holds that a guard, its tests and their expressions come to the same under both lists of names.
func wantSame(t *testing.T, g api.Node, l, other []api.Bind, want bool) {
	t.Helper()
	if Holds(g, other) != want {
		t.Errorf("%v, %q: %v", g, show(other), !want)
	}
	for _, n := range g.L {
		if Test(n, l) != Test(n, other) {
			t.Errorf("%v, %q", n, show(other))
		}
		for _, x := range n.L {
			one, e := Value(x, l)
			two, otherE := Value(x, other)
			if !sameTerm(one, two) || e != otherE {
				t.Errorf("%v, %q", x, show(other))
			}
		}
	}
}
