package code

import (
	"math"
	"slices"
	"strings"
	"testing"

	"pleach/api"
	"pleach/ast"
	"pleach/parse"
)

// treeParts are all nodes of a tree of each kind, whose names are slots'.
func treeParts(t *testing.T) []api.Node {
	t.Helper()
	n, f := parse.Mods("module m. f(V0) when is_atom(V0), (V0 < 1), (V0 =:= [{(V0 + 1)}|[]]) -> (V1 = a), (V1 div 1), f(V0), m:f(V0), V0(1), fun m:f/1, {f(V0), (V0 rem 1)}, [(V0 < 1)|[]], (f(V0) + 1), case V0 of _ when is_pid(V0) -> 1 end, try V0 catch _:_ -> 1 end, receive _ -> 1 after 1 -> 2 end, receive V2 -> [] end, receive {} -> [], [] end.")
	if f.E != api.OK {
		t.Fatal(f)
	}
	var l []api.Node
	seen := map[int8]bool{}
	var walk func(n api.Node)
	walk = func(n api.Node) {
		seen[n.K] = true
		l = append(l, n)
		for _, p := range n.L {
			walk(p)
		}
	}
	walk(n)
	if len(seen) != int(api.NdAfter)+1 {
		t.Fatal(seen)
	}
	return l
}

// noNodes are nodes that may stand nowhere.
func noNodes() []api.Node {
	one := []api.Node{{K: api.NdNil}}
	two := []api.Node{one[0], one[0]}
	l := []api.Node{
		{K: api.NdVar, S: "V0", N: 1}, {K: api.NdVar, S: "V0", T: "a"}, {K: api.NdVar, S: "V0", L: one},
		{K: api.NdInt, N: api.MaxInt + 1}, {K: api.NdInt, N: math.MinInt}, {K: api.NdInt, S: "a"}, {K: api.NdInt, T: "a"}, {K: api.NdInt, L: one},
		{K: api.NdAtom}, {K: api.NdAtom, S: "A"}, {K: api.NdAtom, S: "when"}, {K: api.NdAtom, S: "+"}, {K: api.NdAtom, S: strings.Repeat("a", 33)}, {K: api.NdAtom, S: "a", N: 1}, {K: api.NdAtom, S: "a", L: one},
		{K: api.NdNil, N: 1}, {K: api.NdNil, S: "a"}, {K: api.NdNil, T: "a"}, {K: api.NdNil, L: one},
		{K: api.NdCons}, {K: api.NdCons, L: one}, {K: api.NdCons, L: append(two, one...)}, {K: api.NdCons, N: 1, L: two}, {K: api.NdTuple, N: 1}, {K: api.NdTuple, S: "a"}, {K: api.NdTuple, T: "a", L: two},
		{K: api.NdOp, S: "<", L: one}, {K: api.NdOp, S: "==", L: two}, {K: api.NdOp, S: "<", N: 1, L: two}, {K: api.NdOp, S: "+", L: append(two, one...)}, {K: api.NdTest, S: "is_list", L: two}, {K: api.NdTest, S: "is_map", L: one}, {K: api.NdTest, S: "is_list"},
	}
	for _, k := range []int8{-1, math.MinInt8, api.NdAfter + 1, math.MaxInt8} {
		l = append(l, api.Node{K: k}, api.Node{K: k, S: "V0"}, api.Node{K: k, S: "is_list", L: one})
	}
	return append(l, api.Node{K: api.NdGuard, N: 1}, api.Node{K: api.NdGuard, S: "a"}, api.Node{K: api.NdGuard, L: one}, roundTree(1), row(api.NdTuple, roundTree(2)), sharedTree(60))
}

// nestedTree is a pattern of so many nodes in one another.
func nestedTree(deep int) api.Node {
	n := row(api.NdTuple)
	for range deep - 1 {
		n = row(api.NdTuple, n)
	}
	return n
}

// wideTree is a node of so many nodes, all but itself slots.
func wideTree(n int) api.Node {
	return row(api.NdTuple, slices.Repeat([]api.Node{{K: api.NdVar, S: "V0"}}, n-1)...)
}

// roundTree is a tuple that holds itself so far below.
func roundTree(deep int) api.Node {
	l := make([]api.Node, 1)
	n := row(api.NdTuple, l...)
	for range deep - 1 {
		n = row(api.NdTuple, n)
	}
	l[0] = n
	return n
}

// sharedTree is a pattern of some nodes that hold one another twice, more than can be gone over one by one.
func sharedTree(deep int) api.Node {
	n := api.Node{K: api.NdVar, S: "V0"}
	for range deep {
		n = row(api.NdTuple, n, n)
	}
	return n
}

// P13.1: nodes of all kinds where they may not stand, and nodes that may stand nowhere.
func TestWrongTrees(t *testing.T) {
	none, nothing, wild := row(api.NdGuard), api.Node{K: api.NdNil}, api.Node{K: api.NdVar, S: "_"}
	good := map[string]int{}
	for _, n := range append(treeParts(t), noNodes()...) {
		p, g := ast.Pattern(n), ast.Guard(n)
		wantOne(t, api.Code{Op: api.OpMatch, P: n}, p)
		wantOne(t, api.Code{Op: api.OpMatch, P: row(api.NdTuple, n)}, p)
		wantOne(t, api.Code{Op: api.OpMatch, P: row(api.NdCons, nothing, n)}, p)
		wantOne(t, api.Code{Op: api.OpGuard, P: n}, g)
		wantOne(t, api.Code{Op: api.OpGuard, P: row(api.NdGuard, n)}, ast.Test(n))
		wantReceived(t, n, none, p)
		wantReceived(t, wild, n, g)
		// For its body a clause has one [], and nothing else.
		isNil := n.K == api.NdNil && p
		for _, r := range []struct {
			c    api.Node
			want bool
		}{
			{clause(wild, none, n), isNil}, {clause(wild, none, nothing, n), false}, {clause(wild, none, n, nothing), false}, {clause(wild, none, n, n), false}, {clause(wild, n), false}, {clause(wild, n, none, nothing), false}, {clause(n, wild, none, nothing), false}, {n, n.K == api.NdClause && len(n.L) == 3 && n.L[2].K == api.NdNil},
		} {
			wantOne(t, api.Code{Op: api.OpRecv, B: 2, L: []api.Node{r.c}}, r.want)
			if r.want {
				good["clause"]++
			}
		}
		if p {
			good["pattern"]++
		}
		if g {
			good["guard"]++
		}
	}
	if good["clause"] < 3 || good["pattern"] < 10 || good["guard"] < 5 {
		t.Error(good)
	}
}

// P13.1: clauses of a receive are such.
func TestWrongClauses(t *testing.T) {
	none, nothing, v := row(api.NdGuard), api.Node{K: api.NdNil}, api.Node{K: api.NdVar, S: "V0"}
	l := []api.Node{v, none, nothing}
	wantClause := func(c api.Node, want bool) {
		t.Helper()
		wantOne(t, api.Code{Op: api.OpRecv, B: 2, L: []api.Node{c}}, want)
	}
	wantClause(api.Node{K: api.NdClause, N: 1, L: l}, true)
	for n := -3; n <= 4; n++ {
		wantClause(api.Node{K: api.NdClause, N: n, L: l}, n == 1)
		wantClause(api.Node{K: api.NdClause, N: n, L: l[1:]}, false)
		wantClause(api.Node{K: api.NdClause, N: n, L: []api.Node{v, v, none, nothing}}, false)
	}
	for _, c := range []api.Node{{}, {K: api.NdClause}, {K: api.NdClause, N: 1}, {K: api.NdClause, N: 1, L: l[:1]}, {K: api.NdClause, N: 1, L: l[:2]}, {K: api.NdClause, N: 1, L: append(l, nothing)}, {K: api.NdClause, N: 1, S: "a", L: l}, {K: api.NdClause, N: 1, T: "a", L: l}, {K: api.NdFun, N: 1, L: l}, {K: api.NdGuard, N: 1, L: l}, {K: -1, N: 1, L: l}} {
		wantClause(c, false)
	}
	for _, body := range []string{"V0", "a", "0", "{}", "[[]|[]]", "[], []", "f([])", "(V0 = [])", "([] < [])", "self()"} {
		wantClause(clauses(t, "V0 -> "+body)[0], false)
	}
	after, f := parse.Expr("receive V0 -> [] after 1 -> [] end")
	if f.E != api.OK {
		t.Fatal(f)
	}
	wantClause(after.L[1], false)
	wantOne(t, api.Code{Op: api.OpRecv, A: 1, B: 4, L: after.L}, false)
	wantOne(t, api.Code{Op: api.OpRecv, A: 1, B: 2, L: after.L[:1]}, true)
}

// P13.1: trees at the limits, and past them; of a receive each clause is a tree by itself.
func TestTreeLimits(t *testing.T) {
	none, nothing := row(api.NdGuard), api.Node{K: api.NdNil}
	for _, deep := range []int{1, 2, 61, 62, 63, 64, 65, 66, 1000} {
		n := nestedTree(deep)
		wantOne(t, api.Code{Op: api.OpMatch, P: n}, deep <= api.MaxDepth)
		wantOne(t, api.Code{Op: api.OpGuard, P: row(api.NdGuard, row(api.NdOp, n, n))}, false)
		wantOne(t, api.Code{Op: api.OpGuard, P: row(api.NdGuard, api.Node{K: api.NdTest, S: "is_list", L: []api.Node{n}})}, deep+2 <= api.MaxDepth)
		wantReceived(t, n, none, deep+1 <= api.MaxDepth)
	}
	for _, n := range []int{1, 2, 4000, 4087, 4088, 4089, 4090, 4091, 4092, 4093, 4094, 4095, 4096, 4097, 1 << 16} {
		p := wideTree(n)
		wantOne(t, api.Code{Op: api.OpMatch, P: p}, n <= api.MaxNodes)
		wantOne(t, api.Code{Op: api.OpGuard, P: row(api.NdGuard, api.Node{K: api.NdTest, S: "is_list", L: []api.Node{p}})}, n+2 <= api.MaxNodes)
		wantReceived(t, p, none, n+3 <= api.MaxNodes)
		c := clause(p, none, nothing)
		wantOne(t, api.Code{Op: api.OpRecv, B: 4, L: []api.Node{c, c}}, n+3 <= api.MaxNodes)
	}
}

// P13.1: a receive's table has a place for each clause, and one more.
func TestReceiveTable(t *testing.T) {
	c := clauses(t, "V0 -> []")[0]
	p := base()
	for tabs := range len(p.Tab) + 1 {
		q := p
		q.Tab = p.Tab[:tabs]
		for n := range 5 {
			l := slices.Repeat([]api.Node{c}, n)
			for _, b := range []int{math.MinInt, -2, -1, 0, 1, 2, 3, 4, 5, 6, math.MaxInt} {
				want := b >= 0 && b < tabs && len(p.Tab[b]) == n+1
				for a := range 2 {
					wantIn(t, q, api.Code{Op: api.OpRecv, A: a, B: b, L: l}, want)
				}
				wantIn(t, q, api.Code{Op: api.OpRecv, A: 2, B: b, L: l}, false)
				q.Ops = slices.Clone(p.Ops)
				q.Ops[0] = api.Code{Op: api.OpRecv, B: b, L: l}
				wantCheck(t, q, want)
			}
		}
	}
	// Two receives may have one table; what stands behind its end is no part of it.
	r := api.Code{Op: api.OpRecv, L: []api.Node{c}}
	two := []int{0, 2, 9}
	wantCheck(t, api.Prog{Ops: []api.Code{r, r, {Op: api.OpRet}}, Tab: [][]int{two[:2]}}, true)
	wantCheck(t, api.Prog{Ops: []api.Code{r, r, {Op: api.OpRet}}, Tab: [][]int{two[:3]}}, false)
}
