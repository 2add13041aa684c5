package compile

import (
	"fmt"
	"strings"
	"testing"

	"pleach/api"
	"pleach/code"
)

// wantAnswer holds what Compile answers: code that may be and nothing else, or an error and nothing else; Function answers likewise.
func wantAnswer(t *testing.T, n api.Node, want api.Errno) {
	t.Helper()
	p, e := Compile(n)
	if e != want || e == api.OK && code.Check(p) != api.OK || e != api.OK && len(p.Fns)+len(p.Ops)+len(p.Tab) > 0 {
		t.Errorf("%v, not %v; %v, %d functions, %d instructions, %d tables", e, want, code.Check(p), len(p.Fns), len(p.Ops), len(p.Tab))
	}
	if want == api.OK {
		return
	}
	for _, f := range []api.Fn{{S: "m", T: "f"}, {S: "m", T: "none", N: -1}, {}} {
		if l, e := Function(n, f.S, f.T, f.N); e != want || len(l) > 0 {
			t.Errorf("Function: %v, not %v; %d instructions", e, want, len(l))
		}
	}
}

// wantSlots holds how many slots the first function of a text has; more than may be, and it is refused.
func wantSlots(t *testing.T, text string, slots int) {
	t.Helper()
	n := mods(t, text)
	if slots > api.MaxSlots {
		wantAnswer(t, n, api.ErrLimit)
		return
	}
	wantAnswer(t, n, api.OK)
	if p, _ := Compile(n); p.Fns[0].Slots != slots {
		t.Errorf("%s: %d slots, not %d", text, p.Fns[0].Slots, slots)
	}
}

// list is as many texts, each with its number, with a mark between.
func list(s, mark string, from, to int) string {
	var l []string
	for i := from; i < to; i++ {
		l = append(l, strings.ReplaceAll(s, "$", fmt.Sprint(i)))
	}
	return strings.Join(l, mark)
}

// times is an expression repeated in a body.
func times(e string, n int) string { return list(e, ", ", 0, n) }

// P14.1: the most slots that are ever taken, where clauses take the most, and where bodies do; as many as may be, and one more.
func TestSlots(t *testing.T) {
	for _, r := range []struct {
		text  string
		slots int
	}{
		{"f() -> 1.", 0}, {"f(_) -> 1.", 1}, {"f(1, [], a, {_}) -> 1.", 4}, {"f(X) -> X.", 2}, {"f(_, _, _, _, _, _, _, _) -> 1.", 8}, {"f(A, B, C, D, E, F, G, H) -> 1.", 16},
		// One of several clauses takes the most.
		{"f(_) -> 1; f({A, B, C}) -> {A, B, C}; f(X) -> X.", 4}, {"f({A, B, C}) -> {A, B, C}; f(X) -> (Y = X), {Y}; f(_) -> 1.", 4}, {"f({A, B}) -> {A, B}; f(X) -> (Y = X), {(_ = Y), (_ = 1)}.", 6}, {"f(X) -> (X = 1), (X = 2); f(X) -> (X = 1).", 4},
		// Names in one pattern twice, names that are bound.
		{"f(X, X, {X, X}) -> (X = 1), ({X, X} = 2).", 6}, {"f(X) -> case X of X -> 1; {X, Y} -> (Y = X) end.", 5},
		// What is given back is taken again.
		{"f(X) -> " + times("case X of Y -> Y end", 40) + ".", 4}, {"f(X) -> " + times("receive Y -> Y end", 40) + ".", 3}, {"f(X) -> " + times("try X catch Y:Z -> {Y, Z} end", 40) + ".", 6}, {"f(X) -> " + times("receive Y -> (Z = Y) after (W = 1) -> {W} end", 30) + ".", 7},
		{"f() -> " + times("(_ = 1)", 32) + ".", 32}, {"f() -> " + times("(_ = 1)", 33) + ".", 33}, {"f() -> " + times("(_ = 1)", 100) + ".", 100},
		{"f(_) -> " + times("(_ = 1)", 31) + ".", 32}, {"f(_) -> " + times("(_ = 1)", 32) + ".", 33}, {"f(_, _, _, _, _, _, _, _) -> " + times("(_ = 1)", 24) + ".", 32}, {"f(_, _, _, _, _, _, _, _) -> " + times("(_ = 1)", 25) + ".", 33},
		{"f() -> " + list("(V$ = 1)", ", ", 0, 16) + ".", 32}, {"f() -> " + list("(V$ = 1)", ", ", 0, 17) + ".", 34}, {"f() -> " + list("(V$ = 1)", ", ", 0, 16) + ", (_ = 1).", 33},
		{"f() -> {" + times("(_ = 1)", 32) + "}.", 32}, {"f() -> {" + times("(_ = 1)", 33) + "}.", 33},
		// A head, and a body.
		{"f({" + list("V$", ", ", 0, 31) + "}) -> 1.", 32}, {"f({" + list("V$", ", ", 0, 31) + "}) -> (_ = 1).", 33}, {"f({" + list("V$", ", ", 0, 30) + "}) -> (_ = 1).", 32}, {"f({" + list("V$", ", ", 0, 30) + "}) -> (_ = 1), (_ = 2).", 33}, {"f({" + list("V$", ", ", 0, 29) + "}) -> (W = 1).", 32}, {"f({" + list("V$", ", ", 0, 30) + "}) -> (W = 1).", 33}, {"f() -> ({" + list("V$", ", ", 0, 31) + "} = 1).", 32}, {"f() -> ({" + list("V$", ", ", 0, 32) + "} = 1).", 33},
		// A case takes one, a try two, a receive none, and their clauses more; what try's expression takes is not counted beside.
		{"f() -> " + times("(_ = 1)", 31) + ", case 1 of _ -> 1 end.", 32}, {"f() -> " + times("(_ = 1)", 32) + ", case 1 of _ -> 1 end.", 33}, {"f() -> " + times("(_ = 1)", 31) + ", case 1 of X -> X end.", 33}, {"f() -> " + times("(_ = 1)", 31) + ", case 1 of 1 -> 1; X -> X end.", 33}, {"f() -> " + times("(_ = 1)", 30) + ", case 1 of X -> X end.", 32}, {"f() -> " + times("(_ = 1)", 30) + ", case (_ = 1) of X -> X end.", 33},
		{"f() -> " + times("(_ = 1)", 30) + ", try 1 catch _:_ -> 1 end.", 32}, {"f() -> " + times("(_ = 1)", 31) + ", try 1 catch _:_ -> 1 end.", 33}, {"f() -> " + times("(_ = 1)", 30) + ", try 1 catch _:X -> X end.", 33}, {"f() -> " + times("(_ = 1)", 30) + ", try {(_ = 1), (_ = 2)} catch _:_ -> 1 end.", 32}, {"f() -> " + times("(_ = 1)", 30) + ", try (X = 1) catch _:_ -> 1 end.", 32}, {"f() -> " + times("(_ = 1)", 30) + ", try {(_ = 1), (X = 1)} catch _:_ -> 1 end.", 33}, {"f() -> try {" + times("(_ = 1)", 32) + "} catch _:_ -> 1 end.", 32}, {"f() -> try {" + times("(_ = 1)", 33) + "} catch _:_ -> 1 end.", 33},
		{"f() -> " + times("(_ = 1)", 32) + ", receive _ -> 1 after 1 -> 1 end.", 32}, {"f() -> " + times("(_ = 1)", 32) + ", receive X -> X end.", 33}, {"f() -> " + times("(_ = 1)", 32) + ", receive _ -> (_ = 1) end.", 33}, {"f() -> " + times("(_ = 1)", 32) + ", receive 1 -> 1 after 1 -> (_ = 1) end.", 33}, {"f() -> " + times("(_ = 1)", 32) + ", receive 1 -> 1 after (_ = 1) -> 1 end.", 33}, {"f() -> " + times("(_ = 1)", 30) + ", receive X -> X after (_ = 1) -> 1 end.", 32}, {"f() -> " + times("(_ = 1)", 31) + ", receive X -> X after (_ = 1) -> 1 end.", 33}, {"f() -> " + times("(_ = 1)", 30) + ", receive X -> X after (X = 1) -> 1 end.", 33},
		// In one another.
		{"f() -> case 1 of A -> case 1 of B -> case 1 of C -> {A, B, C} end end end.", 6}, {"f() -> case case case 1 of A -> A end of B -> B end of C -> C end.", 2}, {"f() -> (A = (B = (C = 1))).", 6},
	} {
		wantSlots(t, "module m. "+r.text, r.slots)
		// A function that takes too many is refused wherever it stands; what one takes changes nothing for the others.
		if n := mods(t, "module k. g() -> 1. module m. g(X) -> (X = 1). "+r.text+" h() -> 1."); r.slots > api.MaxSlots {
			wantAnswer(t, n, api.ErrLimit)
		} else if p, _ := Compile(n); p.Fns[0].Slots != 0 || p.Fns[1].Slots != 3 || p.Fns[2].Slots != r.slots || p.Fns[3].Slots != 0 {
			t.Errorf("%s: %v", r.text, p.Fns)
		}
	}
}

// of is a text whose code has so many instructions.
func of(many int) string {
	s := "module m."
	for i := 0; many > 500; i++ {
		// 32 matches are 8 instructions each, the last one without a pop; then ret and fail.
		s += fmt.Sprintf(" f%d() -> %s.", i, list("(_=1)", ",", 0, 32))
		many -= 257
	}
	if many%2 == 0 {
		return s + fmt.Sprintf(" g() -> %s, g().", list("a", ",", 0, many/2-1))
	}
	return s + fmt.Sprintf(" g() -> %s.", list("a", ",", 0, many/2))
}

// P14.1: as many instructions as may be, and more.
func TestManyInstructions(t *testing.T) {
	for _, many := range []int{3, 4, 100, 2000, api.MaxCode - 2, api.MaxCode - 1, api.MaxCode, api.MaxCode + 1, api.MaxCode + 2, 7000} {
		n := mods(t, of(many))
		if many > api.MaxCode {
			wantAnswer(t, n, api.ErrLimit)
			continue
		}
		wantAnswer(t, n, api.OK)
		if p, _ := Compile(n); len(p.Ops) != many {
			t.Errorf("%d instructions, not %d", len(p.Ops), many)
		}
	}
}

// P14.1: tuples of as many parts as may be, and one more, wherever they stand; in patterns and guards they may be greater.
func TestTuples(t *testing.T) {
	for parts, want := range map[int]api.Errno{0: api.OK, 255: api.OK, 256: api.OK, 257: api.ErrLimit, 258: api.ErrLimit, 1000: api.ErrLimit} {
		wide := "{" + times("a", parts) + "}"
		for _, s := range []string{"f() -> $.", "f() -> $, 1.", "f() -> [1|$].", "f() -> {1, $}.", "f() -> (_ = $).", "f() -> f($). f(_) -> 1.", "f() -> hd($).", "f(X) -> X($).", "f() -> case $ of _ -> 1 end.", "f() -> case 1 of _ -> $ end.", "f() -> try $ catch _:_ -> 1 end.", "f() -> try 1 catch _:_ -> $ end.", "f() -> receive _ -> $ end.", "f() -> receive after $ -> 1 end.", "f() -> receive after 1 -> $ end.", "f() -> ($ =:= 1).", "f() -> 1. g() -> 1; g() -> 2, $."} {
			wantAnswer(t, mods(t, "module m. "+strings.ReplaceAll(s, "$", wide)), want)
		}
		for _, s := range []string{"f($) -> 1.", "f(1) -> 1; f({$}) -> 1.", "f() -> ($ = 1).", "f() -> case 1 of $ -> 1 end.", "f() -> try 1 catch _:$ -> 1 end.", "f() -> receive $ -> 1 end.", "f() when ($ < 1) -> 1.", "f() -> receive 1 when is_tuple($) -> 1 end."} {
			wantAnswer(t, mods(t, "module m. "+strings.ReplaceAll(s, "$", wide)), api.OK)
		}
	}
	p := compiled(t, "module m. f() -> {"+times("a", 256)+"}.")
	if c := p.Ops[256]; c.Op != api.OpTuple || c.A != 256 {
		t.Error(c)
	}
}

// P14.1: as many places in tables as may be, and one more: of trees that may be none has as many.
func TestManyPlaces(t *testing.T) {
	for _, r := range []struct {
		tables, each int
		want         bool
	}{{0, 0, true}, {1, api.MaxCode, true}, {1, api.MaxCode + 1, false}, {api.MaxCode, 1, true}, {api.MaxCode + 1, 1, false}, {64, 64, true}, {64, 65, false}, {65, 64, false}} {
		var p api.Prog
		for range r.tables {
			p.Tab = append(p.Tab, make([]int, r.each))
		}
		if fits(p) != r.want {
			t.Errorf("%d tables of %d: %v", r.tables, r.each, !r.want)
		}
	}
	// A tree of as many places as may stand in one.
	n := mods(t, "module m. f() -> 1.")
	one := mods(t, "module m. f() -> receive 1 -> 2 end.").L[0].L[0].L[0].L[1]
	for len(n.L[0].L[0].L[0].L) < 819 {
		n.L[0].L[0].L[0].L = append(n.L[0].L[0].L[0].L, one)
	}
	wantAnswer(t, n, api.OK)
	p, _ := Compile(n)
	if len(p.Tab) != 817 || len(p.Ops) != 817*4+2 || p.Tab[816][1] != 2+816*4 || p.Tab[816][0] != 3+816*4 {
		t.Error(len(p.Tab), len(p.Ops), p.Tab[816])
	}
}
