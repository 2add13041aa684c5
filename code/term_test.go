package code

import (
	"math"
	"slices"
	"strings"
	"testing"

	"pleach/api"
	"pleach/rules"
)

// noTerms are terms that may not be.
func noTerms() []api.Term {
	one, two, three := []api.Term{num(1)}, []api.Term{num(1), num(2)}, []api.Term{num(1), num(2), num(3)}
	l := []api.Term{
		num(api.MaxInt + 1), num(-api.MaxInt - 2), num(math.MinInt), {S: "a"}, {T: "a"}, {L: one},
		{K: api.KAtom}, {K: api.KAtom, S: "A"}, {K: api.KAtom, S: "_"}, {K: api.KAtom, S: "a-"}, {K: api.KAtom, S: "+"}, {K: api.KAtom, S: strings.Repeat("a", 33)}, {K: api.KAtom, S: "a", N: 1}, {K: api.KAtom, S: "a", T: "a"}, {K: api.KAtom, S: "a", L: one},
		{K: api.KRef, N: -1}, {K: api.KRef, N: api.MaxInt + 1}, {K: api.KPid, N: -1}, {K: api.KPid, N: api.MaxInt + 1},
		{K: api.KFun, S: "a"}, {K: api.KFun, S: "a", T: "b", N: -1}, {K: api.KFun, S: "a", T: "b", N: api.MaxArity + 1},
		{K: api.KTuple, N: 1}, {K: api.KTuple, S: "a"}, {K: api.KNil, L: one}, {K: api.KNil, T: "a"}, {K: api.KCons}, {K: api.KCons, L: one}, {K: api.KCons, L: three},
		{K: -1}, {K: math.MinInt8}, {K: api.KCons + 1}, {K: math.MaxInt8, L: two},
	}
	for _, x := range slices.Clone(l) {
		l = append(l, tuple(num(1), x), api.Term{K: api.KCons, L: []api.Term{x, num(1)}}, api.Term{K: api.KCons, L: []api.Term{num(1), x}})
	}
	return append(l, wide(api.MaxTerm+1), wide(1<<16), nested(api.MaxTerm+1), nested(1<<12), round(1), tuple(round(3)), shared(60))
}

// nested is a term of so many nodes in one another.
func nested(deep int) api.Term {
	x := tuple()
	for range deep - 1 {
		x = tuple(x)
	}
	return x
}

// round is a tuple that holds itself so far below.
func round(deep int) api.Term {
	l := make([]api.Term, 1)
	x := tuple(l...)
	for range deep - 1 {
		x = tuple(x)
	}
	l[0] = x
	return x
}

// shared is a term of some nodes that hold one another twice, more than can be gone over one by one.
func shared(deep int) api.Term {
	x := num(1)
	for range deep {
		x = tuple(x, x)
	}
	return x
}

// P13.1: const and fail name any term that may be, and no other.
func TestTerms(t *testing.T) {
	var good []api.Term
	for _, s := range []string{"0", "-1", "576460752303423487", "-576460752303423488", "a", "z_9", "div", "receive", "#Ref<0>", "#Ref<576460752303423487>", "<0>", "<7>", "fun m:f/0", "fun fun:end/8", "{}", "{1,a,{}}", "[]", "[1,2]", "[1|2]", "[[]]"} {
		good = append(good, read(t, s))
	}
	good = append(good, api.Term{}, api.Term{L: []api.Term{}}, wide(api.MaxTerm), nested(api.MaxTerm))
	for _, c := range []api.Code{{Op: api.OpConst}, {Op: api.OpFail}, {Op: api.OpFail, B: 1}, {Op: api.OpFail, B: 2}} {
		for _, x := range good {
			c.T = x
			wantOne(t, c, true)
		}
		for _, x := range noTerms() {
			c.T = x
			wantOne(t, c, false)
		}
	}
}

// P13.1: arith at operators and comparisons, whose names are no atoms' mostly, and at names that are neither.
func TestArith(t *testing.T) {
	good := []string{"+", "-", "*", "div", "rem", "=:=", "=/=", "<", "=<", ">", ">="}
	for _, s := range good {
		c := api.Code{Op: api.OpArith, T: atom(s)}
		wantOne(t, c, true)
		c.T.L = []api.Term{}
		wantOne(t, c, true)
		for _, x := range []api.Term{{S: s}, {K: api.KAtom, T: s}, {K: api.KFun, S: s}, {K: api.KTuple, S: s}, {K: -1, S: s}, {K: math.MaxInt8, S: s}, {K: api.KAtom, S: s, N: 1}, {K: api.KAtom, S: s, N: -1}, {K: api.KAtom, S: s, T: "a"}, {K: api.KAtom, S: s, L: []api.Term{{}}}, atom(s + " "), atom(" " + s), atom(s + s), tuple(atom(s))} {
			c.T = x
			wantOne(t, c, false)
		}
	}
	for _, s := range []string{"", "/", "==", "/=", "<=", "=>", "=", "!", "++", "--", "and", "or", "band", "hd", "a", "DIV", "Rem", "is_atom", "|"} {
		wantOne(t, api.Code{Op: api.OpArith, T: atom(s)}, false)
	}
	for _, x := range append(noTerms(), num(0), num(1), read(t, "[]"), read(t, "{}")) {
		if !slices.Contains(good, x.S) {
			wantOne(t, api.Code{Op: api.OpArith, T: x}, false)
		}
	}
}

// P13.1: built at each built-in's name, and at arities that it has and has not.
func TestBuilt(t *testing.T) {
	arities := map[string][]int{
		"self": {0}, "spawn_link": {3}, "link": {1}, "monitor": {1}, "exit": {1, 2}, "error": {1}, "throw": {1}, "trap_exit": {1}, "register": {1}, "whereis": {1}, "make_ref": {0}, "element": {2}, "length": {1}, "hd": {1}, "tl": {1}, "tuple_size": {1}, "send": {2}, "out": {1}, "now": {0}, "call": {3}, "cast": {2}, "start_child": {2}, "terminate_child": {2}, "restart_child": {2}, "delete_child": {2}, "which_children": {1},
		"": nil, "f": nil, "g": nil, "unlink": nil, "spawn": nil, "+": nil, "div": nil, "HD": nil, "hd ": nil, "size": nil, "is_atom": nil, "receive": nil,
	}
	for s, l := range arities {
		for n := -2; n <= api.MaxArity+1; n++ {
			c := api.Code{Op: api.OpBuilt, A: n, T: atom(s)}
			want := slices.Contains(l, n)
			wantOne(t, c, want)
			if rules.Built(s, n) != want {
				t.Errorf("rules.Built(%q, %d)", s, n)
			}
			if !want {
				continue
			}
			for _, x := range []api.Term{{S: s}, {K: api.KAtom, T: s}, {K: api.KFun, S: s, T: s}, {K: api.KFun, S: s, T: s, N: n}, {K: -1, S: s}, {K: api.KAtom, S: s, N: n + 1}, {K: api.KAtom, S: s, T: s}, {K: api.KAtom, S: s, L: []api.Term{{}}}, tuple(atom(s)), read(t, "[]")} {
				c.T = x
				wantOne(t, c, false)
			}
		}
	}
	for _, x := range noTerms() {
		for n := range 4 {
			wantOne(t, api.Code{Op: api.OpBuilt, A: n, T: x}, false)
		}
	}
}

// P13.1: a receive's term is an integer's from 0 to MaxSlots.
func TestReceiveTerm(t *testing.T) {
	c := api.Code{Op: api.OpRecv, B: 1}
	for _, n := range (bounds{0, 32}).numbers() {
		c.T = num(n)
		wantOne(t, c, 0 <= n && n <= 32)
	}
	for _, x := range append(noTerms(), atom("a"), read(t, "<1>"), read(t, "#Ref<1>"), read(t, "fun m:f/1"), read(t, "{}"), read(t, "{1}"), read(t, "[]"), read(t, "[1]"), api.Term{N: 1, S: "a"}, api.Term{N: 1, L: []api.Term{num(1)}}) {
		c.T = x
		wantOne(t, c, false)
	}
	c.T = api.Term{N: 1, L: []api.Term{}}
	wantOne(t, c, true)
}
