package guard

import (
	"math/big"
	"slices"
	"testing"

	"pleach/api"
	"pleach/term"
)

// edges are integers at and beside the bounds, and beside those whose squares are.
var edges = []int{
	-api.MaxInt - 1, -api.MaxInt, -api.MaxInt + 1, -1 << 58, -1<<30 - 1, -1 << 30, -1<<30 + 1, -1 << 29, -759250125, -759250124, -3, -2, -1, 0,
	1, 2, 3, 759250124, 759250125, 1 << 29, 1<<30 - 1, 1 << 30, 1<<30 + 1, 1 << 58, 1<<58 + 1, api.MaxInt - 1, api.MaxInt,
}

// exact is what an operation comes to, if that is an integer.
func exact(s string, a, b int) (int, bool) {
	x, y := big.NewInt(int64(a)), big.NewInt(int64(b))
	switch s {
	case "+":
		x.Add(x, y)
	case "-":
		x.Sub(x, y)
	case "*":
		x.Mul(x, y)
	}
	n := int(x.Int64())
	return n, x.IsInt64() && -api.MaxInt-1 <= n && n <= api.MaxInt
}

// P11.1: sums, differences and products, at the bounds and one past them.
func TestArith(t *testing.T) {
	seen := map[bool]int{}
	for _, s := range []string{"+", "-", "*"} {
		for _, a := range edges {
			for _, b := range edges {
				n, ok := exact(s, a, b)
				seen[ok]++
				wantSum(t, s, a, b, n, ok)
			}
		}
	}
	if seen[true] < 100 || seen[false] < 100 {
		t.Error("too few:", seen)
	}
	for _, s := range []string{"((M + 1) - 1)", "((M * 2) * 0)", "((N - 1) + 1)", "(0 * (N * N))", "((0 - N) + N)", "{(M + 1)}", "[(N - 1)|[]]"} {
		wantText(t, s, "M=576460752303423487;N=-576460752303423488", "none")
	}
	for s, want := range map[string]string{"((M - 1) + 1)": "576460752303423487", "(N + M)": "-1", "(M + N)": "-1", "(M - M)": "0", "(N - N)": "0", "((0 - M) - 1)": "-576460752303423488", "(-1 * M)": "-576460752303423487"} {
		wantText(t, s, "M=576460752303423487;N=-576460752303423488", want)
	}
}

// wantSum holds what an operation comes to, and what tests of it do.
func wantSum(t *testing.T, s string, a, b, n int, ok bool) {
	t.Helper()
	want, nought, e := num(n), num(0), api.OK
	if !ok {
		want, nought, e = api.Term{}, api.Term{}, api.ErrGuard
	}
	l := []api.Bind{{S: "A", T: num(a)}, {S: "B", T: num(b)}}
	sum := op(s, variable("A"), variable("B"))
	for _, n := range []api.Node{sum, op(s, number(a), number(b)), op(s, number(a), variable("B"))} {
		wantValue(t, n, l, want, e)
	}
	// What is past the bounds has no value, though it would come back within them.
	wantValue(t, op("*", sum, number(0)), l, nought, e)
	for _, c := range comparisons {
		wantTest(t, op(c, sum, sum), l, ok && ordered(c, 0, 0))
		wantTest(t, op(c, sum, number(n)), l, ok && ordered(c, 0, 0))
	}
	wantTest(t, is("is_integer", sum), l, ok)
}

// P11.1: an operand that is no integer, on each side.
func TestNoInteger(t *testing.T) {
	for _, x := range rising {
		for _, y := range rising {
			a, b := read(t, x), read(t, y)
			if a.K == api.KInt && b.K == api.KInt {
				continue
			}
			l := []api.Bind{{S: "A", T: a}, {S: "B", T: b}}
			for _, s := range []string{"+", "-", "*"} {
				n := op(s, variable("A"), variable("B"))
				wantValue(t, n, l, api.Term{}, api.ErrGuard)
				wantTest(t, op("=:=", n, n), l, false)
				wantTest(t, op("=/=", n, n), l, false)
			}
		}
	}
}

// wide is a tuple of so many nodes.
func wide(n int) api.Term { return api.Term{K: api.KTuple, L: make([]api.Term, n-1)} }

// nested is a term of so many nodes in one another.
func nested(n int) api.Term {
	x := num(1)
	for range n - 1 {
		x = api.Term{K: api.KTuple, L: []api.Term{x}}
	}
	return x
}

// wantGreat holds that a term of so many nodes is told, if these are not too many.
func wantGreat(t *testing.T, n api.Node, l []api.Bind, nodes int, want api.Term) {
	t.Helper()
	ok := nodes <= api.MaxTerm
	e := api.OK
	if !ok {
		want, e = api.Term{}, api.ErrGuard
	}
	wantValue(t, n, l, want, e)
	wantTest(t, op("=:=", n, n), l, ok)
	wantTest(t, op("=/=", n, n), l, false)
	wantTest(t, op("=/=", n, number(1)), l, ok)
	wantTest(t, op(">=", number(1), n), l, false)
	wantTest(t, is("is_atom", n), l, false)
	wantTest(t, is("is_tuple", n), l, ok && want.K == api.KTuple)
	wantTest(t, is("is_list", n), l, ok && want.K == api.KCons)
}

// P11.1: cons and tuples that become too great by their names' terms.
func TestGreat(t *testing.T) {
	for _, n := range []int{1, 2, 84, 85, 86, 126, 127, 128, 129, 252, 253, 254, 255, 256} {
		for _, one := range []api.Term{wide(n), nested(n)} {
			l := []api.Bind{{S: "X", T: one}, {S: "Y", T: num(1)}}
			wantValue(t, variable("X"), l, one, api.OK)
			wantGreat(t, expr(t, "{X}"), l, n+1, api.Term{K: api.KTuple, L: []api.Term{one}})
			wantGreat(t, expr(t, "{X, X}"), l, 2*n+1, api.Term{K: api.KTuple, L: []api.Term{one, one}})
			wantGreat(t, expr(t, "{Y, X, X, X}"), l, 3*n+2, api.Term{K: api.KTuple, L: []api.Term{num(1), one, one, one}})
			wantGreat(t, expr(t, "[X|Y]"), l, n+2, api.Term{K: api.KCons, L: []api.Term{one, num(1)}})
			wantGreat(t, expr(t, "[Y|X]"), l, n+2, api.Term{K: api.KCons, L: []api.Term{num(1), one}})
			wantGreat(t, expr(t, "[X|X]"), l, 2*n+1, api.Term{K: api.KCons, L: []api.Term{one, one}})
			wantGreat(t, expr(t, "{Y, {[X|(Y + Y)]}}"), l, n+5, api.Term{K: api.KTuple, L: []api.Term{num(1), {K: api.KTuple, L: []api.Term{{K: api.KCons, L: []api.Term{one, num(2)}}}}}})
		}
	}
}

// P11.1: expressions as great as they may be: nodes of operations are none of the term's.
func TestGreatExpressions(t *testing.T) {
	for _, n := range []int{0, 1, 254, 255, 256, 257, api.MaxNodes - 1} {
		all := api.Term{K: api.KTuple, L: slices.Repeat([]api.Term{num(2)}, n)}
		wantGreatTuple(t, number(2), n, n+1, all)
		if 3*n < api.MaxNodes {
			wantGreatTuple(t, op("+", number(1), variable("X")), n, n+1, all)
		}
	}
	deep, sum := variable("X"), number(0)
	for range api.MaxDepth - 1 {
		deep, sum = tuple(deep), op("+", number(2), sum)
	}
	for n := range api.MaxTerm {
		wantDeep(t, deep, n+1)
	}
	wantValue(t, sum, nil, num(2*(api.MaxDepth-1)), api.OK)
	sum = number(1)
	for range 11 {
		sum = op("+", sum, sum)
	}
	wantValue(t, sum, nil, num(1<<11), api.OK)
}

// wantGreatTuple holds what a tuple of so many parts comes to.
func wantGreatTuple(t *testing.T, part api.Node, n, nodes int, want api.Term) {
	t.Helper()
	e := api.OK
	if nodes > api.MaxTerm {
		want, e = api.Term{}, api.ErrGuard
	}
	wantValue(t, tuple(slices.Repeat([]api.Node{part}, n)...), []api.Bind{{S: "X", T: num(1)}}, want, e)
}

// wantDeep holds what tuples in one another come to with a term of so many nodes in the midst.
func wantDeep(t *testing.T, deep api.Node, n int) {
	t.Helper()
	got, e := Value(deep, []api.Bind{{S: "X", T: wide(n)}})
	if want := n + api.MaxDepth - 1; want <= api.MaxTerm {
		if e != api.OK || term.Size(got) != want {
			t.Error(n, term.Size(got), e)
		}
	} else if e != api.ErrGuard || !sameTerm(got, api.Term{}) {
		t.Error(n, term.Size(got), e)
	}
}
