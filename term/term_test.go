package term

import (
	"fmt"
	"math"
	"math/rand"
	"slices"
	"strconv"
	"strings"
	"testing"

	"pleach/api"
)

const (
	top    = api.MaxInt
	bottom = -api.MaxInt - 1
)

func num(n int) api.Term { return api.Term{K: api.KInt, N: n} }

func name(s string) api.Term { return api.Term{K: api.KAtom, S: s} }

func mark(n int) api.Term { return api.Term{K: api.KRef, N: n} }

func proc(n int) api.Term { return api.Term{K: api.KPid, N: n} }

func funOf(s, t string, n int) api.Term { return api.Term{K: api.KFun, S: s, T: t, N: n} }

func row(l ...api.Term) api.Term { return api.Term{K: api.KTuple, L: l} }

func none() api.Term { return api.Term{K: api.KNil} }

func pair(a, b api.Term) api.Term { return api.Term{K: api.KCons, L: []api.Term{a, b}} }

// list is a proper list.
func list(l ...api.Term) api.Term {
	t := none()
	for _, x := range slices.Backward(l) {
		t = pair(x, t)
	}
	return t
}

// nums are n integers.
func nums(n int) []api.Term {
	l := make([]api.Term, n)
	for i := range l {
		l[i] = num(i)
	}
	return l
}

// wide is a tuple of n nodes, deep one of n nodes of which each holds the next, comb the same of conses whose heads hold (n is odd), chain of conses whose tails do.
func wide(n int) api.Term { return row(nums(n - 1)...) }

func deep(n int) api.Term {
	t := row()
	for range n - 1 {
		t = row(t)
	}
	return t
}

func comb(n int) api.Term {
	t := none()
	for range n / 2 {
		t = pair(t, num(1))
	}
	return t
}

func chain(n int) api.Term { return list(nums(n / 2)...) }

// round is a tuple that holds itself.
func round() api.Term {
	l := make([]api.Term, 1)
	l[0] = row(l...)
	return row(l...)
}

// flat are terms without parts, at their edges.
func flat() []api.Term {
	long := strings.Repeat("a", 32)
	return []api.Term{
		num(0), num(1), num(-1), num(top), num(bottom), num(top - 1), num(bottom + 1),
		name("a"), name("z"), name("a_B1"), name("fun"), name(long), name("q" + strings.Repeat("Z", 31)),
		mark(0), mark(1), mark(top), proc(0), proc(1), proc(top),
		funOf("m", "f", 0), funOf("m", "f", 1), funOf("m", "f", api.MaxArity), funOf(long, long, 8), funOf("fun", "fun", 3),
		row(), none(),
		{K: api.KTuple, L: []api.Term{}}, {K: api.KNil, L: []api.Term{}}, {K: api.KInt, N: 7, L: []api.Term{}},
	}
}

// built are terms with parts that may be.
func built() []api.Term {
	return []api.Term{
		row(num(1)), row(row(), row()), pair(num(1), num(2)), pair(none(), none()), pair(name("a"), row(mark(1))),
		list(nums(3)...), list(list(), list(list())), row(flat()...), list(flat()...), pair(pair(proc(1), proc(2)), pair(mark(1), mark(2))),
		wide(255), wide(256), deep(255), deep(256), comb(255), chain(255), row(comb(255)), row(chain(255)),
	}
}

// wrong are nodes that no term may have.
func wrong() []api.Term {
	long := strings.Repeat("a", 33)
	l := []api.Term{
		num(top + 1), num(bottom - 1), num(math.MaxInt), num(math.MinInt),
		name(""), name("A"), name("_"), name("_a"), name("0"), name("a-b"), name("a "), name("é"), name("aé"), name("a\x00"), name("'a'"), name(long),
		mark(-1), mark(top + 1), mark(math.MinInt), mark(math.MaxInt), proc(-1), proc(top + 1), proc(math.MinInt), proc(math.MaxInt),
		funOf("", "f", 0), funOf("m", "", 0), funOf("M", "f", 0), funOf("m", "F", 0), funOf(long, "f", 0), funOf("m", long, 0),
		funOf("m", "f", -1), funOf("m", "f", api.MaxArity+1), funOf("m", "f", math.MinInt), funOf("m", "f", math.MaxInt),
		{K: api.KCons}, {K: api.KCons, L: nums(1)}, {K: api.KCons, L: nums(3)}, {K: api.KCons, L: nums(300)},
	}
	for _, k := range []int8{-1, -128, 8, 9, 127} {
		l = append(l, api.Term{K: k}, api.Term{K: k, N: 1, S: "a", T: "a"}, api.Term{K: k, L: nums(2)}, api.Term{K: k, L: nums(300)})
	}
	return append(l, filled()...)
}

// filled are nodes of each kind with one field more than the kind names.
func filled() []api.Term {
	var l []api.Term
	add := func(t api.Term, fields string) {
		for _, f := range fields {
			x := t
			switch f {
			case 'N':
				x.N = 1
			case 'S':
				x.S = "a"
			case 'T':
				x.T = "a"
			case 'L':
				x.L = nums(1)
			}
			l = append(l, x)
		}
		if strings.Contains(fields, "L") {
			t.L = nums(2)
			l = append(l, t)
		}
	}
	add(num(0), "STL")
	add(num(1), "STL")
	add(name("a"), "NTL")
	add(mark(0), "STL")
	add(proc(0), "STL")
	add(funOf("m", "f", 0), "L")
	add(row(), "NST")
	add(row(num(1)), "NST")
	add(none(), "NSTL")
	add(pair(num(1), num(2)), "NST")
	return l
}

// show tells what x holds, if that is not much.
func show(x api.Term) string {
	if Size(x) > 20 {
		return "kind " + strconv.Itoa(int(x.K)) + " of " + strconv.Itoa(Size(x)) + " nodes"
	}
	return fmt.Sprintf("%+v", x)
}

func wantCheck(t *testing.T, x api.Term, e api.Errno) {
	t.Helper()
	if got := Check(x); got != e {
		t.Errorf("%s: %v, not %v", show(x), got, e)
	}
}

func wantSize(t *testing.T, x api.Term, n int) {
	t.Helper()
	if got := Size(x); got != n {
		t.Errorf("%s: %d, not %d", show(x), got, n)
	}
}

// same tells whether both are the same term, nil and empty the same.
func same(a, b api.Term) bool {
	return a.K == b.K && a.N == b.N && a.S == b.S && a.T == b.T && slices.EqualFunc(a.L, b.L, same)
}

func wantTerm(t *testing.T, got api.Term, gotE api.Errno, want api.Term, e api.Errno) {
	t.Helper()
	if gotE != e || !same(got, want) {
		t.Errorf("%s %v, not %s %v", show(got), gotE, show(want), e)
	}
}

// P3.1
func TestCheck(t *testing.T) {
	for _, x := range slices.Concat(flat(), built()) {
		wantCheck(t, x, api.OK)
	}
	for _, x := range wrong() {
		wantCheck(t, x, api.ErrTerm)
		wantCheck(t, row(num(1), x), api.ErrTerm)
		wantCheck(t, pair(x, none()), api.ErrTerm)
		wantCheck(t, list(num(1), x), api.ErrTerm)
	}
}

// P3.1: each length of a name, each number of parts.
func TestCheckLengths(t *testing.T) {
	told := map[bool]api.Errno{true: api.OK, false: api.ErrTerm}
	for n := range 70 {
		s := strings.Repeat("a", n)
		fits := told[1 <= n && n <= 32]
		wantCheck(t, name(s), fits)
		wantCheck(t, funOf(s, "f", 1), fits)
		wantCheck(t, funOf("m", s, 1), fits)
		wantCheck(t, api.Term{K: api.KCons, L: nums(n)}, told[n == 2])
		wantCheck(t, row(nums(n)...), api.OK)
	}
	for n := -3; n < 20; n++ {
		wantCheck(t, funOf("m", "f", n), told[0 <= n && n <= 8])
		wantCheck(t, mark(n), told[n >= 0])
		wantCheck(t, proc(n), told[n >= 0])
		wantCheck(t, num(n), api.OK)
	}
}

// P3.1: the limit, in breadth, in depth, and in both.
func TestLimit(t *testing.T) {
	for n := 1; n < 600; n++ {
		wantNodes(t, wide(n), n)
		wantNodes(t, deep(n), n)
		wantNodes(t, comb(2*n-1), 2*n-1)
		wantNodes(t, chain(2*n-1), 2*n-1)
		wantNodes(t, row(deep(n), num(1), wide(2*n)), 3*n+2)
		wantNodes(t, pair(chain(2*n+1), wide(n)), 3*n+2)
	}
	wantNodes(t, wide(1<<20), 1<<20)
	wantNodes(t, deep(1<<16), 1<<16)
}

// wantNodes: x, all of whose nodes may be, has n of them.
func wantNodes(t *testing.T, x api.Term, n int) {
	t.Helper()
	e := api.OK
	if n > api.MaxTerm {
		e = api.ErrLimit
	}
	wantSize(t, x, min(n, api.MaxTerm+1))
	wantCheck(t, x, e)
}

// P3.1: a node that may not be is told among the first MaxTerm + 1 alone.
func TestWrongAtLimit(t *testing.T) {
	bad := num(top + 1)
	for at := 2; at < 270; at++ { // the place of the bad one, the first one's is 1
		e := api.ErrTerm
		if at > api.MaxTerm+1 {
			e = api.ErrLimit
		}
		for _, behind := range []int{0, 1, 300} {
			l := append(append(nums(at-2), bad), nums(behind)...)
			wantCheck(t, row(l...), e)
		}
		// Behind all of a deep one, though it is less deep itself.
		if at > 2 {
			wantCheck(t, row(deep(at-2), bad), e)
			wantCheck(t, row(deep(at-2), bad, deep(300)), e)
		}
		x := bad
		for range at - 1 {
			x = row(x, num(1))
		}
		wantCheck(t, x, e)
		x = row(bad)
		x.S = "a" // a node is ahead of its parts
		wantCheck(t, row(append(nums(at-2), x)...), e)
	}
	wantCheck(t, row(bad, wide(300)), api.ErrTerm)
	wantCheck(t, row(wide(300), bad), api.ErrLimit)
	wantCheck(t, api.Term{K: api.KInt, L: nums(300)}, api.ErrTerm)
}

// P3.1: nodes are counted whatever they are.
func TestSize(t *testing.T) {
	for _, c := range []struct {
		t api.Term
		n int
	}{
		{num(1), 1}, {name("a"), 1}, {name(""), 1}, {none(), 1}, {row(), 1}, {row(num(1)), 2}, {pair(num(1), num(2)), 3},
		{list(nums(3)...), 7}, {row(row(row()), row()), 4}, {api.Term{K: 99}, 1}, {api.Term{K: -1, L: nums(3)}, 4},
		{api.Term{K: api.KInt, L: nums(5)}, 6}, {api.Term{K: api.KCons, L: nums(1)}, 2}, {api.Term{K: api.KNil, L: nums(255)}, 256}, {api.Term{K: api.KNil, L: nums(256)}, 257}, {api.Term{K: api.KNil, L: nums(257)}, 257},
	} {
		wantSize(t, c.t, c.n)
	}
}

// R1: terms that hold themselves have more than MaxTerm nodes.
func TestRound(t *testing.T) {
	x := round()
	wantNodes(t, x, api.MaxTerm+1)
	wantCheck(t, row(x, name("")), api.ErrLimit)
	wantCheck(t, row(name(""), x), api.ErrTerm)
	wantTuple(t, []api.Term{x}, api.Term{}, api.ErrLimit)
	wantFrom(t, []api.Term{x}, api.Term{}, api.ErrLimit)
	wantCons(t, x, x, api.Term{}, api.ErrLimit)
	wantCons(t, x, name(""), api.Term{}, api.ErrTerm)
	wantCompare(t, x, x, 0)
	if s := Text(x); s != "" {
		t.Error(s)
	}
	l := make([]api.Term, 2)
	l[1] = api.Term{K: api.KCons, L: l}
	wantNodes(t, l[1], api.MaxTerm+1)
	wantList(t, l[1], nil, false)
}

// rising are terms, each ahead of the next one.
func rising() []api.Term {
	a, b := name("a"), name("b")
	return []api.Term{
		num(bottom), num(bottom + 1), num(-10), num(-9), num(-1), num(0), num(1), num(9), num(10), num(top - 1), num(top),
		a, name("a0"), name("a09"), name("a1"), name("a10"), name("a9"), name("aB"), name("aZ"), name("a_"), name("aa"), name("ab"), b, name("ba"), name("z"),
		mark(0), mark(1), mark(2), mark(10), mark(top),
		funOf("a", "a", 0), funOf("a", "a", 8), funOf("a", "aa", 3), funOf("a", "b", 0), funOf("a", "b", 1), funOf("aa", "a", 0), funOf("b", "a", 0), funOf("b", "a", 1),
		proc(0), proc(1), proc(2), proc(10), proc(top),
		row(), row(num(5)), row(b), row(row(a, a)), row(none()), row(num(1), num(2)), row(num(1), a), row(a, num(1)), row(a, a), row(a, none()), row(num(0), num(0), num(0)),
		none(),
		pair(num(1), num(2)), pair(num(1), b), pair(num(1), row()), list(num(1)), pair(num(1), pair(num(0), num(0))), list(num(1), num(1)), list(num(1), num(2)), list(num(1), a),
		list(num(2)), pair(a, num(0)), list(a), list(a, a, a), list(a, b), pair(none(), num(0)), list(none()), pair(list(num(1)), num(0)),
	}
}

func wantCompare(t *testing.T, a, b api.Term, c int) {
	t.Helper()
	if got := Compare(a, b); got != c {
		t.Errorf("%s and %s: %d, not %d", show(a), show(b), got, c)
	}
}

func sign(n int) int { return min(max(n, -1), 1) }

// P3.2
func TestCompare(t *testing.T) {
	l := rising()
	for i := range l {
		for k := range l {
			wantCompare(t, l[i], l[k], sign(i-k))
			wantCompare(t, row(num(1), l[i], num(3)), row(num(1), l[k], num(2)), sign(2*(i-k)+1))
			wantCompare(t, pair(l[i], none()), pair(l[k], num(1)), sign(2*(i-k)+1))
			wantCompare(t, pair(num(1), l[i]), pair(num(1), l[k]), sign(i-k))
		}
	}
	for _, x := range slices.Concat(flat(), built()) {
		wantCompare(t, x, x, 0)
	}
	// nil and empty are the same.
	wantCompare(t, api.Term{L: []api.Term{}}, api.Term{}, 0)
	wantCompare(t, api.Term{K: api.KTuple, L: []api.Term{}}, row(), 0)
}

// P3.2: terms of MaxTerm nodes that differ in the last one.
func TestCompareGreat(t *testing.T) {
	a, b := nums(255), nums(255)
	a[254] = name("a")
	wantCompare(t, row(a...), row(b...), 1)
	wantCompare(t, row(b...), row(a...), -1)
	wantCompare(t, row(row(a[1:]...)), row(row(b[1:]...)), 1)
	wantCompare(t, list(a[128:]...), list(b[128:]...), 1)
	wantCompare(t, row(list(b[128:]...)), row(list(a[128:]...)), -1)
	x, y := num(1), num(2)
	for range 255 {
		x, y = row(x), row(y)
	}
	wantCompare(t, x, y, -1)
	wantCompare(t, y, x, 1)
}

// P3.2: 0, if one of both may not be.
func TestCompareWrong(t *testing.T) {
	for _, x := range append(wrong(), wide(257), deep(257), comb(257)) {
		for _, y := range []api.Term{num(-5), name("zz"), row(), row(num(1), num(2), num(3)), none(), list(nums(4)...), x} {
			wantCompare(t, x, y, 0)
			wantCompare(t, y, x, 0)
			wantCompare(t, row(num(1), x), row(num(2), y), 0)
			wantCompare(t, pair(num(2), y), pair(num(1), x), 0)
		}
	}
}

// someTerms are terms that may be, all of few different parts, so that many are alike in their beginnings.
func someTerms(n int) []api.Term {
	r := rand.New(rand.NewSource(3))
	leaves := []api.Term{num(0), num(1), num(-1), name("a"), name("b"), mark(1), funOf("a", "b", 1), proc(1), row(), none()}
	var some func(depth int) api.Term
	some = func(depth int) api.Term {
		if depth == 0 || r.Intn(3) == 0 {
			return leaves[r.Intn(len(leaves))]
		}
		if r.Intn(3) == 0 {
			return pair(some(depth-1), some(depth-1))
		}
		var l []api.Term
		for range r.Intn(4) {
			l = append(l, some(depth-1))
		}
		if r.Intn(2) == 0 {
			return list(l...)
		}
		return row(l...)
	}
	var l []api.Term
	for range n {
		l = append(l, some(3))
	}
	return l
}

// P3.5: of two one is ahead, or they are the same.
func TestOrderOfTwo(t *testing.T) {
	l := append(someTerms(300), rising()...)
	for _, a := range l {
		for _, b := range l {
			c := Compare(a, b)
			if c < -1 || c > 1 || c != -Compare(b, a) || (c == 0) != same(a, b) || (c == 0) != (Text(a) == Text(b)) {
				t.Fatal(Text(a), Text(b), c, Compare(b, a))
			}
		}
	}
}

// P3.5: a row of three; sorted by one another, all stand in their order.
func TestOrderOfThree(t *testing.T) {
	l := someTerms(80)
	for _, a := range l {
		for _, b := range l {
			for _, c := range l {
				if Compare(a, b) <= 0 && Compare(b, c) <= 0 && Compare(a, c) > 0 {
					t.Fatal(Text(a), Text(b), Text(c))
				}
			}
		}
	}
	want := rising()
	got := rising()
	rand.New(rand.NewSource(1)).Shuffle(len(got), func(i, k int) { got[i], got[k] = got[k], got[i] })
	slices.SortFunc(got, Compare)
	if !slices.EqualFunc(got, want, same) {
		t.Error("not sorted")
	}
}
