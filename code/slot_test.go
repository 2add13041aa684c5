package code

import (
	"math"
	"slices"
	"strconv"
	"strings"
	"testing"

	"pleach/api"
)

// slotNames are all of them.
func slotNames() []string {
	l := strings.Fields("V0 V1 V2 V3 V4 V5 V6 V7 V8 V9 V10 V11 V12 V13 V14 V15 V16 V17 V18 V19 V20 V21 V22 V23 V24 V25 V26 V27 V28 V29 V30 V31")
	return l
}

// otherNames are texts that no slot is called.
func otherNames() []string {
	return []string{"", "V", "v", "v0", "v1", "_", "_0", "_V0", "V_", "V0_", "V0a", "V1 ", " V1", "V 1", "V1\n", "V00", "V01", "V07", "V031", "V000", "V32", "V33", "V99", "V100", "V256", "V310", "V-1", "V-0", "V+1", "V1.", "V1e0", "V0x1", "V1_0", "VV1", "V1V", "VV", "0", "1", "31", "-1", "W0", "U1", "X", "Name", "Va", "VA", "V१", "V1\x00", "V4294967296", "V18446744073709551616", "V18446744073709551617", "V576460752303423488", "V" + strings.Repeat("0", 99) + "1", strings.Repeat("V", 1<<12), "V1" + strings.Repeat("0", 1<<12), "a", "é", "V\xff"}
}

// P13.2: names there and back.
func TestSlot(t *testing.T) {
	l := slotNames()
	if len(l) != api.MaxSlots {
		t.Fatal(l)
	}
	for n, s := range l {
		if got := Name(n); got != s {
			t.Errorf("%d: %q", n, got)
		}
		if got, ok := Slot(s); got != n || !ok {
			t.Errorf("%q: %d, %v", s, got, ok)
		}
	}
	for _, s := range otherNames() {
		if n, ok := Slot(s); n != 0 || ok {
			t.Errorf("%q: %d, %v", s, n, ok)
		}
	}
	for _, n := range []int{-1, -2, -31, -32, 32, 33, 64, 256, 1 << 32, math.MinInt, math.MaxInt, math.MaxInt - 31, math.MinInt + 31} {
		if s := Name(n); s != "" {
			t.Errorf("%d: %q", n, s)
		}
	}
	// Of all short texts just those.
	const bytes = "V0123456789v_-+ X"
	many := 0
	for _, a := range bytes {
		for _, b := range bytes {
			for _, c := range "\x00" + bytes {
				s := strings.TrimRight(string([]rune{a, b, c}), "\x00")
				n, ok := Slot(s)
				if ok != slices.Contains(l, s) || ok && l[n] != s {
					t.Errorf("%q: %d, %v", s, n, ok)
				}
				if ok {
					many++
				}
			}
		}
	}
	if many != api.MaxSlots {
		t.Error(many)
	}
}

// wantNamed holds whether trees may name so what they bind and tell, wherever a name stands.
func wantNamed(t *testing.T, name string, want bool) {
	t.Helper()
	v, zero := api.Node{K: api.NdVar, S: name}, api.Node{K: api.NdVar, S: "V0"}
	for _, p := range []api.Node{v, row(api.NdTuple, v), row(api.NdTuple, zero, v), row(api.NdTuple, v, zero), row(api.NdTuple, zero, v, zero), row(api.NdCons, v, zero), row(api.NdCons, zero, v), row(api.NdTuple, zero, row(api.NdCons, zero, row(api.NdTuple, v)))} {
		wantOne(t, api.Code{Op: api.OpMatch, P: p}, want)
		sum := api.Node{K: api.NdOp, S: "+", L: []api.Node{zero, p}}
		tests := []api.Node{
			{K: api.NdTest, S: "is_list", L: []api.Node{p}},
			{K: api.NdOp, S: "<", L: []api.Node{p, zero}},
			{K: api.NdOp, S: "=:=", L: []api.Node{zero, sum}},
		}
		for _, x := range tests {
			wantOne(t, api.Code{Op: api.OpGuard, P: row(api.NdGuard, x)}, want)
			wantOne(t, api.Code{Op: api.OpGuard, P: row(api.NdGuard, tests[1], x)}, want)
			wantReceived(t, zero, row(api.NdGuard, x), want)
		}
		wantOne(t, api.Code{Op: api.OpGuard, P: row(api.NdGuard, tests...)}, want)
		wantReceived(t, p, row(api.NdGuard), want)
		wantReceived(t, p, row(api.NdGuard, tests...), want)
	}
}

func row(kind int8, l ...api.Node) api.Node { return api.Node{K: kind, L: l} }

// wantReceived holds whether a clause of such a pattern and guard may stand in a receive, alone and beside others.
func wantReceived(t *testing.T, p, g api.Node, want bool) {
	t.Helper()
	c := clause(p, g, api.Node{K: api.NdNil})
	wantOne(t, api.Code{Op: api.OpRecv, B: 2, L: []api.Node{c}}, want)
	good := clause(api.Node{K: api.NdVar, S: "_"}, row(api.NdGuard), api.Node{K: api.NdNil})
	wantOne(t, api.Code{Op: api.OpRecv, B: 4, L: []api.Node{c, good}}, want)
	wantOne(t, api.Code{Op: api.OpRecv, B: 4, L: []api.Node{good, c}}, want)
}

// clause is one of those parts, of one pattern.
func clause(l ...api.Node) api.Node { return api.Node{K: api.NdClause, N: 1, L: l} }

// P13.1: the names of patterns, guards and clauses are slots', or _.
func TestNamed(t *testing.T) {
	for _, s := range append(slotNames(), "_") {
		wantNamed(t, s, true)
	}
	for _, s := range otherNames() {
		wantNamed(t, s, s == "_")
	}
	for i := range 100 {
		wantNamed(t, "V"+strconv.Itoa(i), i < api.MaxSlots)
	}
}

// goodPatterns and goodGuards are texts of them.
var (
	goodPatterns = []string{"_", "V0", "V31", "7", "-576460752303423488", "a", "[]", "[V0|V1]", "[V0|[_|[]]]", "{}", "{V0}", "{V0, V0, _, _}", "{a, 1, [], {[V3|7]}, V2}", "{[{}|{}], {[]}}"}
	goodGuards   = []string{"is_atom(V0)", "is_integer(V1)", "is_pid(V2)", "is_reference(V3)", "is_tuple(V4)", "is_list(V5)", "is_function(V31)", "(V0 =:= 1)", "(V0 =/= a)", "(V0 < V1)", "(V0 =< [])", "({V0} > {})", "([V0|V1] >= _)", "((V0 + 1) < (V1 * (V2 - 7)))", "is_atom(V0), is_atom(V0), (1 < 2)", "is_tuple({(V0 + V0), [_|a]})"}
)

// P13.1: patterns, guards and clauses that may be.
func TestTrees(t *testing.T) {
	none := api.Node{K: api.NdGuard}
	wantOne(t, api.Code{Op: api.OpGuard, P: none}, true)
	wantOne(t, api.Code{Op: api.OpGuard, P: api.Node{K: api.NdGuard, L: []api.Node{}}}, true)
	for _, s := range goodPatterns {
		p := pattern(t, s)
		wantOne(t, api.Code{Op: api.OpMatch, P: p, A: 1, B: 3}, true)
		wantOne(t, api.Code{Op: api.OpGuard, P: p}, false)
		wantReceived(t, p, none, true)
		for _, s := range goodGuards {
			g := guard(t, s)
			wantOne(t, api.Code{Op: api.OpGuard, P: g, A: 1}, true)
			wantOne(t, api.Code{Op: api.OpMatch, P: g}, false)
			wantReceived(t, p, g, true)
			wantReceived(t, g, g, false)
			wantReceived(t, p, p, false)
		}
	}
}
