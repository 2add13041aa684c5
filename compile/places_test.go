package compile

import (
	"math"
	"slices"
	"testing"

	"pleach/api"
	"pleach/ast"
	"pleach/code"
)

// P14.2: functions that are there, each as it stands in the whole code, and functions that are not.
func TestFunction(t *testing.T) {
	n := mods(t, "module m. f() -> g(1). g(X) when (X > 1) -> X. g(_, _) -> receive X -> X end. module k. module n. f() -> m:f(), 2.")
	p, e := Compile(n)
	if e != api.OK {
		t.Fatal(e)
	}
	for _, r := range []struct {
		module, name string
		arity        int
		from, to     int
	}{{"m", "f", 0, 0, 3}, {"m", "g", 1, 3, 10}, {"m", "g", 2, 10, 19}, {"n", "f", 0, 19, 24}} {
		l, e := Function(n, r.module, r.name, r.arity)
		if e != api.OK || len(l) != r.to-r.from || !code.Same(api.Prog{Ops: l}, api.Prog{Ops: p.Ops[r.from:r.to]}) {
			t.Errorf("%s:%s/%d: %v, %v", r.module, r.name, r.arity, l, e)
		}
	}
	l, _ := Function(n, "m", "g", 1)
	if l[1].Op != api.OpMatch || l[1].A != 8 || l[2].Op != api.OpGuard || l[2].A != 9 {
		t.Error(l)
	}
	for _, f := range []api.Fn{{S: "m", T: "f", N: 1}, {S: "m", T: "g"}, {S: "m", T: "g", N: 3}, {S: "m", T: "g", N: -1}, {S: "m", T: "g", N: math.MaxInt}, {S: "m", T: "g", N: math.MinInt}, {S: "n", T: "g", N: 1}, {S: "k", T: "f"}, {S: "o", T: "f"}, {S: "m", T: "h"}, {S: "", T: "f"}, {S: "m", T: ""}, {}, {S: "f", T: "m"}, {S: "M", T: "f"}, {S: "m", T: "hd", N: 1}, {S: "m", T: "self"}} {
		if l, e := Function(n, f.S, f.T, f.N); e != api.ErrArg || len(l) > 0 {
			t.Errorf("%v: %v, %v", f, l, e)
		}
	}
	if l, e := Function(api.Node{}, "m", "f", 0); e != api.ErrArg || len(l) > 0 {
		t.Error(l, e)
	}
}

func wantPlaces(t *testing.T, p api.Prog, want ...int) {
	t.Helper()
	if got := Places(p); !slices.Equal(got, want) {
		t.Errorf("%v, not %v", got, want)
	}
}

// ends is a code of those instructions, with so many behind that may be the last ones.
func ends(behind int, l ...api.Code) api.Prog {
	for range behind {
		l = append(l, api.Code{Op: api.OpRet})
	}
	return api.Prog{Ops: l}
}

// P14.2: where instructions of each kind lead.
func TestPlaces(t *testing.T) {
	any, clause := api.Node{K: api.NdVar, S: "_"}, mods(t, "module m. f() -> receive _ -> [] end.").L[0].L[0].L[0].L[1].L[0]
	leads := []api.Code{{Op: api.OpJump}, {Op: api.OpMatch, P: any}, {Op: api.OpGuard, P: api.Node{K: api.NdGuard}}, {Op: api.OpTry}}
	for _, c := range leads {
		for at := range 7 {
			c.A = at
			wantPlaces(t, ends(6, c), at)
			wantPlaces(t, ends(1, api.Code{Op: api.OpJump, A: 6}, c, api.Code{Op: api.OpPop}, c, api.Code{Op: api.OpEnd}, api.Code{Op: api.OpEnd}), slices.Compact([]int{at, 6})...)
		}
		for _, at := range []int{-1, 7, 8, math.MaxInt, math.MinInt} {
			c.A = at
			wantPlaces(t, ends(6, c))
		}
	}
	// Rising, each once.
	l := slices.Clone(leads)
	for i, at := range []int{5, 3, 5, 0} {
		l[i].A = at
	}
	wantPlaces(t, ends(2, l...), 0, 3, 5)
	// Others lead nowhere, whatever their numbers are.
	p := ends(3, api.Code{Op: api.OpLoad, A: 1}, api.Code{Op: api.OpStore, A: 2}, api.Code{Op: api.OpTuple, A: 3}, api.Code{Op: api.OpApply, A: 2}, api.Code{Op: api.OpFail, B: 1, T: atom("a")}, api.Code{Op: api.OpCall, A: 1, B: 1}, api.Code{Op: api.OpTail, A: 1, B: 1}, api.Code{Op: api.OpConst, T: api.Term{N: 2}}, api.Code{Op: api.OpBuilt, T: atom("hd"), A: 1})
	p.Fns = []api.Fn{{S: "m", T: "f"}, {S: "m", T: "f", N: 1, At: 4, Slots: 1}}
	wantPlaces(t, p)
	// Tables: of each receive all its places, of others none.
	p = ends(6, api.Code{Op: api.OpRecv, B: 1, L: []api.Node{clause}}, api.Code{Op: api.OpRecv, A: 1, B: 2})
	p.Tab = [][]int{{7}, {4, 2}, {3}, {6, 6}}
	wantPlaces(t, p, 2, 3, 4)
	p.Ops[1].B = 0
	wantPlaces(t, p, 2, 4, 7)
	p.Ops[0].B = 3
	wantPlaces(t, p, 6, 7)
	p.Ops[2] = api.Code{Op: api.OpJump, A: 1}
	wantPlaces(t, p, 1, 6, 7)
	p.Tab[2][0] = 8
	wantPlaces(t, p)
}

// P14.2: of codes that may not be there are no places.
func TestPlacesOfNone(t *testing.T) {
	wantPlaces(t, api.Prog{})
	wantPlaces(t, api.Prog{Fns: []api.Fn{}, Ops: []api.Code{}, Tab: [][]int{}})
	wantPlaces(t, ends(1))
	jump := api.Code{Op: api.OpJump}
	wantPlaces(t, ends(0, jump), 0)
	wantPlaces(t, ends(0, jump, api.Code{Op: api.OpPop}))
	wantPlaces(t, ends(1, jump, api.Code{Op: -1}))
	wantPlaces(t, ends(1, jump, api.Code{Op: 127}))
	wantPlaces(t, ends(1, jump, api.Code{Op: api.OpRecv}))
	wantPlaces(t, ends(1, jump, api.Code{Op: api.OpRecv, B: -1}))
	wantPlaces(t, ends(1, jump, api.Code{Op: api.OpCall, B: 1}))
	wantPlaces(t, ends(1, api.Code{Op: api.OpJump, B: 1}))
	p := ends(1, jump)
	wantPlaces(t, p, 0)
	p.Fns = []api.Fn{{S: "m", T: "f", At: 2}}
	wantPlaces(t, p)
	p.Fns = []api.Fn{{S: "m", T: "f"}, {S: "m", T: "f"}}
	wantPlaces(t, p)
	p.Fns, p.Tab = nil, [][]int{{-1}}
	wantPlaces(t, p)
	wantPlaces(t, ends(api.MaxCode-1, jump), 0)
	wantPlaces(t, ends(api.MaxCode, jump))
	var far []api.Code
	for i := range api.MaxCode {
		far = append(far, api.Code{Op: api.OpJump, A: (i * 17) % api.MaxCode})
	}
	if l := Places(api.Prog{Ops: far}); len(l) != api.MaxCode || !slices.IsSorted(l) {
		t.Error(len(l))
	}
}

// P14.2: of code that was compiled, the places that its text tells.
func TestPlacesOfCompiled(t *testing.T) {
	wantPlaces(t, compiled(t, "module m."))
	wantPlaces(t, compiled(t, "module m. f() -> 1."))
	wantPlaces(t, compiled(t, "module m. f(X) -> X."), 4)
	wantPlaces(t, compiled(t, "module m. f(X) when (X > 1) -> X."), 5, 6)
	wantPlaces(t, compiled(t, place("(Y = X)")), 8, 9, 10, 16)
	wantPlaces(t, compiled(t, place("try X catch exit:_ -> 1 end")), 6, 14, 18, 24)
	wantPlaces(t, compiled(t, place("{receive {Y, X} when (Y > X) -> Y; Z -> {Z} after 7 -> g(X), b end}")), 5, 7, 10, 15, 17, 23)
	wantPlaces(t, compiled(t, place("receive Y -> Y end")), 2, 3, 5, 11)
}

// P14.2: the expressions that stand directly in clauses' bodies, left at each place, and gone over again.
func TestWalk(t *testing.T) {
	n := mods(t, "module m. f() -> 1, {2}; f() -> case 3 of _ -> 4 end. g(5) when (6 > 7) -> (X = 8), X. module k. module n. f() -> receive 9 -> 10 after 11 -> 12, 13 end, [14|15].")
	type step struct {
		fn   int
		text string
	}
	want := []step{{0, "1"}, {0, "{2}"}, {0, "case 3 of _ -> 4 end"}, {1, "(X = 8)"}, {1, "X"}, {2, "receive 9 -> 10 after 11 -> 12, 13 end"}, {2, "[14|15]"}}
	walk := Walk(n)
	for most := range len(want) + 2 {
		var got []step
		if most > 0 {
			for at, e := range walk {
				got = append(got, step{at, cut(api.Node{K: api.NdClause, L: []api.Node{{K: api.NdGuard}, e}}, "f() -> ", "")})
				if len(got) == most {
					break
				}
			}
		}
		if !slices.Equal(got, want[:min(most, len(want))]) {
			t.Errorf("%d: %v", most, got)
		}
	}
	wantWalk(t, n)
	wantWalk(t, mods(t, all))
	// It tells what there was when it was asked for.
	walk = Walk(n)
	for i := range n.L {
		n.L[i] = api.Node{K: -1}
	}
	many := 0
	for at, e := range walk {
		if at != want[many].fn || !ast.Expr(e) {
			t.Error(at, e)
		}
		many++
	}
	if many != len(want) {
		t.Error(many)
	}
	for at, e := range Walk(n) {
		t.Error(at, e)
	}
}
