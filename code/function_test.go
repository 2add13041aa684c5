package code

import (
	"math"
	"slices"
	"strconv"
	"strings"
	"testing"

	"pleach/api"
)

// wantFn holds whether a function may be, alone, and ahead of others and behind them.
func wantFn(t *testing.T, f api.Fn, want bool) {
	t.Helper()
	l := []api.Fn{fn("first", 0, 0, 0), fn("next", 1, 0, 1)}
	for at := range len(l) + 1 {
		wantCheck(t, api.Prog{Fns: slices.Insert(slices.Clone(l), at, f), Ops: base().Ops}, want)
	}
	wantCheck(t, api.Prog{Fns: []api.Fn{f}, Ops: base().Ops}, want)
}

// P13.1: arities and slots at their bounds and past them.
func TestFunctionNumbers(t *testing.T) {
	great := []int{math.MinInt, -1 << 32, 1 << 32, math.MaxInt}
	for n := -3; n <= api.MaxArity+3; n++ {
		for slots := -3; slots <= api.MaxSlots+3; slots++ {
			wantFn(t, fn("f", n, 0, slots), 0 <= n && n <= 8 && n <= slots && slots <= 32)
		}
		for _, slots := range great {
			wantFn(t, fn("f", n, 0, slots), false)
		}
	}
	for _, n := range great {
		wantFn(t, fn("f", n, 0, 32), false)
		wantFn(t, fn("f", n, 0, n), false)
	}
}

// P13.1: functions' and modules' names are atoms; the language's words are, too.
func TestFunctionNames(t *testing.T) {
	for s, want := range map[string]bool{"a": true, "z9_Z": true, "fA0_": true, "receive": true, "div": true, "hd": true, strings.Repeat("a", 32): true, strings.Repeat("a", 33): false, "": false, "A": false, "_": false, "_a": false, "1": false, "a-": false, "a b": false, "+": false, "=:=": false, "é": false, "aé": false, "a\x00": false, "f ": false, "[]": false} {
		wantFn(t, api.Fn{S: s, T: "f"}, want)
		wantFn(t, api.Fn{S: "m", T: s}, want)
		wantFn(t, api.Fn{S: s, T: s}, want)
	}
}

// P13.1: two functions of one module, name and arity, wherever they begin.
func TestFunctionTwice(t *testing.T) {
	f := fn("f", 1, 0, 1)
	same := []api.Fn{f, fn("f", 1, 1, 1), fn("f", 1, 0, 2), fn("f", 1, 4, 32)}
	others := []api.Fn{fn("g", 1, 0, 1), fn("f", 2, 0, 2), fn("f", 0, 0, 1), {S: "n", T: "f", N: 1, Slots: 1}, {S: "f", T: "m", N: 1, Slots: 1}, {S: "mf", T: "f", N: 1, Slots: 1}, {S: "m", T: "mf", N: 1, Slots: 1}}
	for _, g := range same {
		wantCheck(t, api.Prog{Fns: []api.Fn{f, g}, Ops: base().Ops}, false)
		wantCheck(t, api.Prog{Fns: append([]api.Fn{g}, append(others, f)...), Ops: base().Ops}, false)
	}
	for _, g := range others {
		wantCheck(t, api.Prog{Fns: []api.Fn{f, g}, Ops: base().Ops}, true)
	}
	wantCheck(t, api.Prog{Fns: append([]api.Fn{f}, others...), Ops: base().Ops}, true)
	// What stands behind the end is no part of it.
	l := []api.Fn{f, f}
	wantCheck(t, api.Prog{Fns: l[:1], Ops: base().Ops}, true)
}

// P13.1: what a call's numbers may be, by the functions there are.
func TestCalls(t *testing.T) {
	p := base()
	for _, op := range []int8{api.OpCall, api.OpTail} {
		for b := -2; b <= len(p.Fns)+2; b++ {
			for a := -2; a <= api.MaxArity+2; a++ {
				want := b >= 0 && b < len(p.Fns) && p.Fns[b].N == a
				wantOne(t, api.Code{Op: op, A: a, B: b}, want)
				wantIn(t, api.Prog{Ops: p.Ops, Tab: p.Tab}, api.Code{Op: op, A: a, B: b}, false)
			}
		}
	}
}

// plenty is a code of so many instructions, functions, and tables of so many places in all.
func plenty(ops, fns, tabs, places int) api.Prog {
	p := api.Prog{Ops: slices.Repeat([]api.Code{{Op: api.OpRet}}, ops), Tab: make([][]int, tabs)}
	for i := range fns {
		p.Fns = append(p.Fns, api.Fn{S: "m", T: "f" + strconv.Itoa(i), At: i % ops})
	}
	for i := range places {
		p.Tab[i%tabs] = append(p.Tab[i%tabs], i%ops)
	}
	return p
}

// P13.1: codes at the limits, and one past each.
func TestLimits(t *testing.T) {
	const most = api.MaxCode
	for _, r := range []struct {
		p    api.Prog
		want bool
	}{
		{plenty(most, 0, 0, 0), true}, {plenty(most+1, 0, 0, 0), false}, {plenty(2*most, 0, 0, 0), false},
		{plenty(1, most, 0, 0), true}, {plenty(1, most+1, 0, 0), false}, {plenty(1, 2*most, 0, 0), false},
		{plenty(1, 0, most, 0), true}, {plenty(1, 0, most+1, 0), true}, {plenty(1, 0, most+2, 0), false}, {plenty(1, 0, 2*most, 0), false},
		{plenty(1, 0, 1, most), true}, {plenty(1, 0, 1, most+1), false}, {plenty(1, 0, 7, most), true}, {plenty(1, 0, 7, most+1), false}, {plenty(1, 0, most+1, most), true}, {plenty(1, 0, most+1, most+1), false}, {plenty(1, 0, most, most+1), false}, {plenty(1, 0, 2, 3*most), false},
		{plenty(most, most, most+1, most), true}, {plenty(most+1, most, most+1, most), false}, {plenty(most, most+1, most+1, most), false}, {plenty(most, most, most+2, most), false}, {plenty(most, most, most+1, most+1), false},
		{plenty(2, 5, 3, 7), true}, {plenty(9, 1, 0, 0), true},
	} {
		wantCheck(t, r.p, r.want)
		if got := One(r.p, api.Code{Op: api.OpRet}); !got {
			t.Error("ret may stand in it")
		}
	}
	// The last function, the last table of so many.
	p := plenty(most, most, most+1, 0)
	wantIn(t, p, api.Code{Op: api.OpCall, B: most - 1}, true)
	wantIn(t, p, api.Code{Op: api.OpCall, B: most}, false)
	p.Tab[most] = []int{most - 1}
	wantIn(t, p, api.Code{Op: api.OpRecv, B: most}, true)
	wantIn(t, p, api.Code{Op: api.OpRecv, B: most + 1}, false)
	p.Fns[most-1].T = "f0"
	wantCheck(t, p, false)
}

// P13.1: a receive of as many clauses as a code has room for places.
func TestManyClauses(t *testing.T) {
	l := slices.Repeat(clauses(t, "V0 -> []"), api.MaxCode)
	for n, want := range map[int]bool{api.MaxCode - 2: true, api.MaxCode - 1: true, api.MaxCode: false} {
		p := of(api.Code{Op: api.OpRecv, L: l[:n]}, api.Code{Op: api.OpRet})
		p.Tab = [][]int{make([]int, n+1)}
		wantCheck(t, p, want)
		wantIn(t, p, p.Ops[0], true)
		wantIn(t, p, api.Code{Op: api.OpRecv, L: l[:n-1]}, false)
	}
}

func wantFind(t *testing.T, p api.Prog, s, name string, n, want int, ok bool) {
	t.Helper()
	if at, is := Find(p, s, name, n); at != want || is != ok {
		t.Errorf("%s:%s/%d: %d, %v", s, name, n, at, is)
	}
}

// P13.1: functions that are there, that are there twice, and that are not.
func TestFind(t *testing.T) {
	p := base()
	for i, f := range p.Fns {
		wantFind(t, p, f.S, f.T, f.N, i, true)
		wantFind(t, p, f.S, f.T, f.N+1, 0, false)
		wantFind(t, p, f.S, f.T, f.N-1, 0, false)
		wantFind(t, p, f.T, f.S, f.N, 0, false)
		wantFind(t, p, "", f.T, f.N, 0, false)
		wantFind(t, p, f.S, "", f.N, 0, false)
		wantFind(t, p, f.S+f.T, f.T, f.N, 0, false)
		wantFind(t, p, f.S, f.T+" ", f.N, 0, false)
	}
	wantFind(t, p, "m", "hd", 1, 0, false)
	wantFind(t, p, "m", "f", math.MaxInt, 0, false)
	wantFind(t, p, "m", "f", math.MinInt, 0, false)
	wantFind(t, api.Prog{}, "m", "f", 0, 0, false)
	wantFind(t, api.Prog{Ops: p.Ops}, "", "", 0, 0, false)
	p.Fns = append(p.Fns, fn("g", 1, 4, 7), fn("f", 0, 1, 1), fn("new", 2, 0, 2), fn("new", 2, 0, 3))
	wantFind(t, p, "m", "g", 1, 1, true)
	wantFind(t, p, "m", "f", 0, 0, true)
	wantFind(t, p, "m", "new", 2, 6, true)
	// Functions that may not be are found, too.
	p.Fns = []api.Fn{{S: "A", T: "+", N: -1, At: -7}, {}, {S: "m", T: "f", N: 9, Slots: 99}}
	wantFind(t, p, "A", "+", -1, 0, true)
	wantFind(t, p, "", "", 0, 1, true)
	wantFind(t, p, "m", "f", 9, 2, true)
	p = plenty(1, api.MaxCode+7, 0, 0)
	wantFind(t, p, "m", "f"+strconv.Itoa(api.MaxCode+6), 0, api.MaxCode+6, true)
	wantFind(t, api.Prog{Fns: p.Fns[:3]}, "m", "f3", 0, 0, false)
}
