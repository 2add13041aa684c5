package match

import (
	"reflect"
	"slices"
	"strings"
	"testing"

	"pleach/api"
	"pleach/term"
)

// wantFill holds what Fill answers, again and again, and that what is handed in stays as it was, whatever is done to the answer's own list.
func wantFill(t *testing.T, p api.Node, l []api.Bind, want api.Term, e api.Errno) {
	t.Helper()
	plain := given{p: []api.Node{p}, l: l}
	in := plain.roomy()
	for _, g := range []given{plain, in} {
		for range 2 {
			got, gotE := Fill(g.p[0], g.l)
			if !sameTerm(got, want) || gotE != e {
				t.Errorf("%.300v, %.300q: %.300q %v, not %.300q %v", p, show(l), term.Text(got), gotE, term.Text(want), e)
			}
			if p.K == api.NdCons || p.K == api.NdTuple {
				_ = append(got.L, num(9))
				clear(got.L)
			}
		}
	}
	if !reflect.DeepEqual(in.whole(), plain.roomy().whole()) {
		t.Errorf("%.300v, %.300q: changed", p, show(l))
	}
}

// wantFilled holds the text of what Fill tells; error: ErrArg, limit: ErrLimit.
func wantFilled(t *testing.T, p, l, want string) {
	t.Helper()
	names := rows(t, l, bind)
	switch want {
	case "error":
		wantFill(t, pat(t, p), names, api.Term{}, api.ErrArg)
	case "limit":
		wantFill(t, pat(t, p), names, api.Term{}, api.ErrLimit)
	default:
		wantFill(t, pat(t, p), names, read(t, want), api.OK)
	}
}

// P10.3: each kind of pattern, and names with each kind of term.
func TestFill(t *testing.T) {
	for p, want := range map[string]string{
		"0": "0", "-1": "-1", "576460752303423487": "576460752303423487", "-576460752303423488": "-576460752303423488", "a": "a", "[]": "[]", "{}": "{}", "{{}, []}": "{{},[]}", "{1, a, {b}}": "{1,a,{b}}", "[1|2]": "[1|2]", "[1|[2|[]]]": "[1,2]", "[[]|[[]|a]]": "[[],[]|a]", "{[1|{}]}": "{[1|{}]}",
	} {
		wantFilled(t, p, "", want)
		wantFilled(t, p, "X=1;Y=2;X=3", want)
	}
	for _, x := range some {
		wantFilled(t, "X", "X="+x, x)
		wantFilled(t, "X", "Y=1;X="+x+";X=2;X=3", x)
		wantFilled(t, "{X, {1, X}}", "X="+x, "{"+x+",{1,"+x+"}}")
		wantFilled(t, "[X|b]", "X="+x, "["+x+"|b]")
		wantFilled(t, "[a|[X|[]]]", "X="+x, "[a,"+x+"]")
		for _, y := range some {
			wantFilled(t, "{Y, {X, Y}, 1}", "X="+x+";Y="+y, "{"+y+",{"+x+","+y+"},1}")
		}
	}
	wantFilled(t, "{X, [Y|X], -3}", "X={a};Y=7;X=b", "{{a},[7|{a}],-3}")
	wantFilled(t, "[H|T]", "T=[2,3];H=1", "[1,2,3]")
	wantFilled(t, "{_X, __}", "__=1;_X=2", "{2,1}")
}

// P10.3: names that are not bound, and _, wherever they stand.
func TestFillUnbound(t *testing.T) {
	for _, name := range []string{"Z", "_", "_X", "Xx", "__"} {
		for _, p := range []string{"$", "{$}", "{X, $}", "{$, X}", "[$|X]", "[X|$]", "{X, {Y, [1|{$, 1}]}, Y}", "{$, $}"} {
			for _, l := range []string{"", "X=1;Y=2", "Y=2;X=1;X=2"} {
				wantFilled(t, strings.ReplaceAll(p, "$", name), l, "error")
			}
		}
	}
	wantFilled(t, "{X, Y}", "X=1", "error")
	wantFilled(t, "{X, Y}", "Y=1", "error")
}

// P10.3: MaxTerm nodes, and one more, by the pattern's own nodes and by names' terms.
func TestFillLimit(t *testing.T) {
	x := func(n int) []api.Bind { return []api.Bind{{S: "X", T: wide(n)}, {S: "Y", T: num(1)}} }
	// tell is the term, if it is not too great.
	tell := func(l ...api.Term) (api.Term, api.Errno) { return term.Tuple(l) }
	for _, n := range []int{1, 2, 84, 85, 86, 127, 128, 129, 252, 253, 254, 255, 256} {
		one := wide(n)
		wantFill(t, variable("X"), x(n), one, api.OK)
		want, e := tell(one)
		wantFill(t, pat(t, "{X}"), x(n), want, e)
		wantLimit(t, e, n+1)
		want, e = tell(one, one)
		wantFill(t, pat(t, "{X, X}"), x(n), want, e)
		wantLimit(t, e, 2*n+1)
		want, e = tell(num(1), one, one, one)
		wantFill(t, pat(t, "{Y, X, X, X}"), x(n), want, e)
		wantLimit(t, e, 3*n+2)
		want, e = term.Cons(one, num(1))
		wantFill(t, pat(t, "[X|Y]"), x(n), want, e)
		wantLimit(t, e, n+2)
		want, e = term.Cons(num(1), one)
		wantFill(t, pat(t, "[Y|X]"), x(n), want, e)
		wantLimit(t, e, n+2)
		wantFill(t, api.Node{K: api.NdTuple, L: slices.Repeat([]api.Node{{K: api.NdInt}}, n-1)}, nil, one, api.OK)
	}
	for _, n := range []int{257, 258, api.MaxNodes} {
		wantFill(t, api.Node{K: api.NdTuple, L: slices.Repeat([]api.Node{{K: api.NdInt}}, n-1)}, nil, api.Term{}, api.ErrLimit)
		wantFill(t, api.Node{K: api.NdTuple, L: slices.Repeat([]api.Node{variable("X")}, n-1)}, x(256), api.Term{}, api.ErrLimit)
	}
	wantFill(t, deepPattern(api.MaxDepth), x(256-api.MaxDepth+1), filledDeep(256-api.MaxDepth+1), api.OK)
	wantFill(t, deepPattern(api.MaxDepth), x(256-api.MaxDepth+2), api.Term{}, api.ErrLimit)
	wantFill(t, deepPattern(api.MaxDepth), []api.Bind{{S: "X", T: nested(256 - api.MaxDepth + 1)}}, nested(256), api.OK)
}

// wantLimit holds that a term of so many nodes is refused just if these are too many.
func wantLimit(t *testing.T, e api.Errno, nodes int) {
	t.Helper()
	if (e == api.ErrLimit) != (nodes > api.MaxTerm) {
		t.Error(e, nodes)
	}
}

// filledDeep is deepPattern of MaxDepth with a tuple of so many nodes for its name.
func filledDeep(n int) api.Term {
	x := wide(n)
	for range api.MaxDepth - 1 {
		x = api.Term{K: api.KTuple, L: []api.Term{x}}
	}
	return x
}

// P10.3: a name that is not bound goes ahead of a term that is too great, on whatever side it stands.
func TestFillOrder(t *testing.T) {
	l := []api.Bind{{S: "X", T: wide(200)}}
	for _, s := range []string{"{X, X}", "{{X, X}, 1}", "{1, [X|X]}", "{{{X, X}}, {X, X}}", "[{X, X}|1]"} {
		wantFill(t, pat(t, s), l, api.Term{}, api.ErrLimit)
		for _, name := range []string{"_", "Z"} {
			wantFill(t, pat(t, "{"+s+", "+name+"}"), l, api.Term{}, api.ErrArg)
			wantFill(t, pat(t, "{"+name+", "+s+"}"), l, api.Term{}, api.ErrArg)
			wantFill(t, pat(t, "["+s+"|["+s+"|"+name+"]]"), l, api.Term{}, api.ErrArg)
			wantFill(t, pat(t, "{{"+name+"}, {"+s+", 1}}"), l, api.Term{}, api.ErrArg)
			wantFill(t, pat(t, "{{"+s+", 1}, {{"+name+"}, 1}, {"+s+"}}"), l, api.Term{}, api.ErrArg)
		}
	}
}

// P10.3: trees that are no patterns, and names that may not be, whether the pattern needs them or not.
func TestFillWrong(t *testing.T) {
	l := rows(t, "A=1;X=2", bind)
	for i, p := range noPatterns(t) {
		for _, l := range [][]api.Bind{nil, l} {
			if x, e := Fill(p, l); e != api.ErrArg || !sameTerm(x, api.Term{}) {
				t.Error(i, term.Text(x), e)
			}
		}
	}
	for _, p := range rows(t, "1;a;[];{};A;X;{A, X};[1|X];{1, {2}}", pat) {
		for i, b := range noNames() {
			for at := range len(l) + 1 {
				if x, e := Fill(p, slices.Insert(slices.Clone(l), at, b)); e != api.ErrArg || !sameTerm(x, api.Term{}) {
					t.Error(p, i, at, term.Text(x), e)
				}
			}
		}
		for _, n := range []int{65, 255, 1 << 16} {
			if x, e := Fill(p, append(slices.Clone(l), many(n-2)...)); e != api.ErrArg || !sameTerm(x, api.Term{}) {
				t.Error(p, n, term.Text(x), e)
			}
		}
		if _, e := Fill(p, append(slices.Clone(l), many(62)...)); e != api.OK {
			t.Error(p, e)
		}
	}
	wantFill(t, tupleOf(many(64)), many(64), termOf(many(64)), api.OK)
}
