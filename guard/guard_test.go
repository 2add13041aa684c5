package guard

import (
	"fmt"
	"reflect"
	"slices"
	"strings"
	"testing"

	"pleach/api"
	"pleach/parse"
	"pleach/term"
)

// whens is the guard of a text.
func whens(t *testing.T, s string) api.Node {
	t.Helper()
	n, f := parse.Mods("module m. f() when " + s + " -> a.")
	if f.E != api.OK {
		t.Fatalf("%q: %v", s, f)
	}
	return n.L[0].L[0].L[0].L[0]
}

// expr is the guard expression of a text.
func expr(t *testing.T, s string) api.Node {
	t.Helper()
	return whens(t, "is_atom("+s+")").L[0].L[0]
}

// read is the term of a text.
func read(t *testing.T, s string) api.Term {
	t.Helper()
	x, used, e := term.Read(s)
	if e != api.OK || used != len(s) {
		t.Fatalf("%q: %v at %d", s, e, used)
	}
	return x
}

// binds are those of a text such as X=1;Y={a}.
func binds(t *testing.T, s string) []api.Bind {
	t.Helper()
	var l []api.Bind
	for p := range strings.SplitSeq(s, ";") {
		if p == "" {
			continue
		}
		name, x, _ := strings.Cut(p, "=")
		l = append(l, api.Bind{S: name, T: read(t, x)})
	}
	return l
}

func num(n int) api.Term { return api.Term{K: api.KInt, N: n} }

func number(n int) api.Node { return api.Node{K: api.NdInt, N: n} }

func variable(s string) api.Node { return api.Node{K: api.NdVar, S: s} }

func op(s string, a, b api.Node) api.Node {
	return api.Node{K: api.NdOp, S: s, L: []api.Node{a, b}}
}

func is(s string, x api.Node) api.Node { return api.Node{K: api.NdTest, S: s, L: []api.Node{x}} }

func guard(l ...api.Node) api.Node { return api.Node{K: api.NdGuard, L: l} }

func tuple(l ...api.Node) api.Node { return api.Node{K: api.NdTuple, L: l} }

// comparisons and kindWords are all that tests are made of.
var (
	comparisons = []string{"=:=", "=/=", "<", "=<", ">", ">="}
	kindWords   = []string{"is_atom", "is_integer", "is_pid", "is_reference", "is_tuple", "is_list", "is_function"}
)

// rising are terms of all kinds, each ahead of the next one.
var rising = []string{
	"-576460752303423488", "-1", "0", "1", "576460752303423487", "a", "aa", "b", "#Ref<0>", "#Ref<1>", "fun a:a/0", "fun a:a/1", "fun a:b/0", "fun b:a/0", "<0>", "<1>",
	"{}", "{0}", "{a}", "{{}}", "{[]}", "{0,0}", "{0,1}", "{a,0}", "{0,0,0}", "[]", "[0|0]", "[0|{}]", "[0]", "[0,0]", "[0,1]", "[1|0]", "[1]", "[a]", "[{}]", "[[]]", "[[0]]",
}

// roomy is the same in new memory, with something behind each end.
func roomy[T any](x T) T { return copied(reflect.ValueOf(x), true).Interface().(T) }

// wholly is the same in new memory, with what stands behind the ends ahead of them.
func wholly[T any](x T) T { return copied(reflect.ValueOf(x), false).Interface().(T) }

func copied(v reflect.Value, room bool) reflect.Value {
	to := reflect.New(v.Type()).Elem()
	to.Set(v)
	switch v.Kind() {
	case reflect.Struct:
		for i := range v.NumField() {
			to.Field(i).Set(copied(v.Field(i), room))
		}
	case reflect.Slice:
		if !room {
			v = v.Slice(0, v.Cap())
		}
		to.Set(reflect.MakeSlice(v.Type(), v.Len()+1, v.Len()+1))
		for i := range v.Len() {
			to.Index(i).Set(copied(v.Index(i), room))
		}
		to.Index(v.Len()).FieldByName("S").SetString("behind")
		return to.Slice(0, v.Len())
	}
	return to
}

func sameTerm(a, b api.Term) bool {
	return a.K == b.K && a.N == b.N && a.S == b.S && a.T == b.T && slices.EqualFunc(a.L, b.L, sameTerm)
}

// show tells names, and their terms.
func show(l []api.Bind) string {
	var s []string
	for _, b := range l {
		s = append(s, b.S+"="+term.Text(b.T))
	}
	return strings.Join(s, ";")
}

// brief is the beginning of what is told of a thing.
func brief(x any) string {
	s := fmt.Sprint(x)
	return s[:min(len(s), 300)]
}

// untouched holds that a call answers the same again and again, with room behind what is handed in, too, and changes nothing of that.
func untouched(t *testing.T, n api.Node, l []api.Bind, call func(n api.Node, l []api.Bind)) {
	t.Helper()
	call(n, l)
	inN, inL := roomy(n), roomy(l)
	call(inN, inL)
	call(inN, inL)
	if !reflect.DeepEqual(wholly(inN), wholly(roomy(n))) || !reflect.DeepEqual(wholly(inL), wholly(roomy(l))) {
		t.Errorf("%s, %s: changed", brief(n), brief(show(l)))
	}
}

// wantValue holds what Value answers.
func wantValue(t *testing.T, n api.Node, l []api.Bind, want api.Term, e api.Errno) {
	t.Helper()
	untouched(t, n, l, func(n api.Node, l []api.Bind) {
		t.Helper()
		got, gotE := Value(n, l)
		if !sameTerm(got, want) || gotE != e {
			t.Errorf("%s, %s: %s %v, not %s %v", brief(n), brief(show(l)), brief(term.Text(got)), gotE, brief(term.Text(want)), e)
		}
		if n.K != api.NdVar {
			// The list of a term that was put together here is the caller's.
			_ = append(got.L, num(9))
			clear(got.L)
		}
	})
}

// wantText holds the text of what Value answers; none: ErrGuard.
func wantText(t *testing.T, s, l, want string) {
	t.Helper()
	if want == "none" {
		wantValue(t, expr(t, s), binds(t, l), api.Term{}, api.ErrGuard)
		return
	}
	wantValue(t, expr(t, s), binds(t, l), read(t, want), api.OK)
}

// wantTest holds whether a test holds, by itself and in guards.
func wantTest(t *testing.T, n api.Node, l []api.Bind, want bool) {
	t.Helper()
	untouched(t, n, l, func(n api.Node, l []api.Bind) {
		t.Helper()
		yes := is("is_list", api.Node{K: api.NdNil})
		for i, got := range []bool{Test(n, l), Holds(guard(n), l), Holds(guard(n, n), l), Holds(guard(yes, n), l), Holds(guard(n, yes), l)} {
			if got != want {
				t.Errorf("%s, %s: %d: %v", brief(n), brief(show(l)), i, got)
			}
		}
	})
}

// wantHolds holds whether the guard of a text holds.
func wantHolds(t *testing.T, s, l string, want bool) {
	t.Helper()
	untouched(t, whens(t, s), binds(t, l), func(g api.Node, l []api.Bind) {
		t.Helper()
		if Holds(g, l) != want {
			t.Errorf("%q, %q: %v", s, show(l), !want)
		}
	})
}

// P11.1: each kind of guard expression, in one another.
func TestKinds(t *testing.T) {
	for s, want := range map[string]string{
		"0": "0", "-1": "-1", "576460752303423487": "576460752303423487", "-576460752303423488": "-576460752303423488", "a": "a", "behind": "behind", "x0_Y": "x0_Y",
		"[]": "[]", "{}": "{}", "{{}, []}": "{{},[]}", "{1, a, {b}}": "{1,a,{b}}", "[1|2]": "[1|2]", "[1|[2|[]]]": "[1,2]", "[[]|[[]|a]]": "[[],[]|a]", "{[1|{}]}": "{[1|{}]}",
		"(1 + 2)": "3", "(1 - 2)": "-1", "(3 * 2)": "6", "(-3 * 2)": "-6", "((1 + 2) * (3 - 5))": "-6", "(2 - (3 - 5))": "4", "((2 - 3) - 5)": "-6", "(1 + (2 * 3))": "7",
		"{(1 + 1), [(2 * 2)|(0 - 1)]}": "{2,[4|-1]}", "[{(1 + 1)}|{[]}]": "[{2}|{[]}]",
	} {
		for _, l := range []string{"", "X=1;Y=a", "_={}"} {
			wantText(t, s, l, want)
		}
	}
}

// P11.1: names that are bound, to terms of each kind.
func TestVariables(t *testing.T) {
	for _, x := range rising {
		for _, name := range []string{"X", "Y0_z", "_X", "__", "A" + strings.Repeat("9", 31)} {
			wantText(t, name, name+"="+x, x)
			wantText(t, name, "B=1;"+name+"="+x+";C={a}", x)
			wantText(t, "{"+name+", {1, "+name+"}, ["+name+"|b]}", name+"="+x, "{"+x+",{1,"+x+"},["+x+"|b]}")
		}
		for _, y := range rising {
			wantText(t, "X", "X="+x+";X="+y, x)
			wantText(t, "X", "Y="+y+";X="+x+";X="+y+";X=7", x)
			wantText(t, "[Y|{X, Y}]", "X="+x+";Y="+y+";X=7;Y=8", "["+y+"|{"+x+","+y+"}]")
		}
	}
	wantText(t, "((X * X) + (Y - X))", "X=3;Y=10;X=0", "16")
	wantText(t, "{X, [H|T], (H - 1)}", "T=[2,3];H=1;X={}", "{{},[1,2,3],0}")
}

// noValues are expressions without a value under X=3 and A=a; _ and Z are not bound there.
var noValues = []string{"Z", "_", "__", "Xx", "(X + A)", "(A + X)", "(X - [])", "({} * 1)", "(576460752303423487 + X)", "(-576460752303423488 - X)", "(576460752303423487 * X)"}

// P11.1: what has a part without a value has none, wherever that part stands.
func TestNoValue(t *testing.T) {
	for _, s := range noValues {
		for _, in := range []string{"$", "{$}", "{X, $}", "{$, X}", "[$|X]", "[X|$]", "{X, {A, [1|{$, 1}]}, A}", "($ + 1)", "(1 + $)", "($ * 0)", "(0 * $)", "(1 - ($ + 1))", "{$, $}", "($ - $)"} {
			for _, l := range []string{"X=3;A=a", "_=1;A=a;X=3;X=1;_=2", "A=a;_=a;X=3;A=1"} {
				wantText(t, strings.ReplaceAll(in, "$", s), l, "none")
			}
		}
	}
	for _, s := range []string{"X", "{X}", "(X + 1)", "[1|X]"} {
		wantValue(t, expr(t, s), nil, api.Term{}, api.ErrGuard)
		wantValue(t, expr(t, s), []api.Bind{}, api.Term{}, api.ErrGuard)
		wantText(t, s, "x=1;XX=1;Y=2", "none")
	}
}

// P11.1: what comes of names' terms is put together in new memory.
func TestNewTerms(t *testing.T) {
	l := binds(t, "X={1,2};Y=[1|2]")
	for _, s := range []string{"{X, Y}", "[X|Y]", "{{X}, [Y|Y]}"} {
		one, _ := Value(expr(t, s), l)
		other, _ := Value(expr(t, s), l)
		before := term.Text(other)
		one.L[0], one.L[1] = num(8), num(9)
		if term.Text(other) != before || show(l) != "X={1,2};Y=[1|2]" {
			t.Error(s, term.Text(other), show(l))
		}
	}
}

// P11.1: Find.
func TestFind(t *testing.T) {
	names := []string{"X", "Y", "_X", "_", "__", "", "x", "X ", "é", strings.Repeat("A", 100)}
	for _, x := range rising {
		for _, name := range names {
			l := []api.Bind{{S: "B", T: num(1)}, {S: name, T: read(t, x)}, {S: name, T: num(7)}, {S: "C"}}
			untouched(t, api.Node{}, l, func(_ api.Node, l []api.Bind) {
				if got, ok := Find(l, name); !ok || !sameTerm(got, read(t, x)) {
					t.Errorf("%q: %q %v, not %q", name, term.Text(got), ok, x)
				}
			})
			wantFound(t, l[2:], name, num(7), true)
			for _, l := range [][]api.Bind{nil, {}, l[:1], l[3:], roomy(l)[:1], {l[0], l[3]}} {
				wantFound(t, l, name, api.Term{}, false)
			}
		}
	}
	wantFound(t, []api.Bind{{S: "X"}}, "behind", api.Term{}, false)
	wantFound(t, roomy([]api.Bind{{S: "X"}}), "behind", api.Term{}, false)
	for i, x := range noTerms() {
		l := []api.Bind{{S: "Y", T: x}, {S: "X", T: num(2)}}
		wantFound(t, l, "X", num(2), true)
		got, ok := Find(l, "Y")
		if !ok || got.K != x.K || got.N != x.N || got.S != x.S || got.T != x.T || len(got.L) != len(x.L) {
			t.Error(i)
		}
	}
}

func wantFound(t *testing.T, l []api.Bind, name string, want api.Term, ok bool) {
	t.Helper()
	if got, gotOK := Find(l, name); !sameTerm(got, want) || gotOK != ok {
		t.Errorf("%q, %s: %q %v", name, brief(show(l)), term.Text(got), gotOK)
	}
}

// P11.1: the chapter asks nothing of names; those that may be no variable's are told by no guard.
func TestStrangeNames(t *testing.T) {
	for _, name := range []string{"", "_", "x", "1", "X-", " X", "É", "X\x00", strings.Repeat("A", 33), strings.Repeat("A", 1<<16)} {
		b := api.Bind{S: name, T: num(7)}
		for _, l := range [][]api.Bind{{b, {S: "X", T: num(3)}}, {{S: "X", T: num(3)}, b}, {b, b, {S: "X", T: num(3)}, b}} {
			wantValue(t, expr(t, "(X + 1)"), l, num(4), api.OK)
			wantValue(t, expr(t, "{Y, X}"), l, api.Term{}, api.ErrGuard)
			wantTest(t, whens(t, "(X =:= 3)").L[0], l, true)
			wantTest(t, whens(t, "(X =:= 4)").L[0], l, false)
		}
		wantValue(t, expr(t, "_"), []api.Bind{b}, api.Term{}, api.ErrGuard)
	}
}

// P11.1: as many names as one likes.
func TestManyNames(t *testing.T) {
	l := slices.Repeat([]api.Bind{{S: "Y", T: num(1)}}, 1<<17)
	l = append(l, api.Bind{S: "X", T: num(2)}, api.Bind{S: "X", T: num(3)}, api.Bind{S: "Y", T: num(4)})
	n := tuple(slices.Repeat([]api.Node{op("+", variable("X"), variable("Y"))}, 255)...)
	want := api.Term{K: api.KTuple, L: slices.Repeat([]api.Term{num(3)}, 255)}
	if got, e := Value(n, l); e != api.OK || !sameTerm(got, want) {
		t.Error(term.Text(got), e)
	}
	test := op("=:=", variable("X"), number(2))
	if !Test(test, l) || !Holds(guard(slices.Repeat([]api.Node{test}, 1000)...), l) {
		t.Error("X is 2")
	}
	l[1<<16].T = api.Term{K: -1}
	if _, e := Value(n, l); e != api.ErrArg || Test(test, l) || Holds(guard(test), l) || Holds(guard(), l) {
		t.Error("one of many may not be")
	}
}
