package eval

import (
	"slices"
	"strconv"
	"strings"
	"testing"

	"pleach/api"
	"pleach/term"
)

// P12.2: patterns that match, and that do not; the names that they bind.
func TestMatches(t *testing.T) {
	wantRows(t, mods(t, text), "X=1;Y={a};X=2", []row{
		{"(X = 1)", "1", "", 2}, {"(X = 2)", "error:{badmatch,2}", "", 2}, {"(Y = {a})", "{a}", "", 3}, {"({X, Y, Z} = {1, {a}, 3})", "{1,{a},3}", "Z=3", 6}, {"({X, Z, Y} = {1, 3, 3})", "error:{badmatch,{1,3,3}}", "", 5}, {"({Z, Z} = {2, 2})", "{2,2}", "Z=2", 4}, {"({Z, Z} = {2, 3})", "error:{badmatch,{2,3}}", "", 4}, {"({X, X} = {1, 1})", "{1,1}", "", 4}, {"({X, X} = {2, 2})", "error:{badmatch,{2,2}}", "", 4},
		{"({_, _} = {2, 3})", "{2,3}", "", 4}, {"({_, _} = {2, 3, 4})", "error:{badmatch,{2,3,4}}", "", 5}, {"({} = [])", "error:{badmatch,[]}", "", 2}, {"([] = [])", "[]", "", 2}, {"([A|B] = [1|[2|[]]])", "[1,2]", "A=1;B=[2]", 6}, {"([A|[B|C]] = [1|[2|[]]])", "[1,2]", "A=1;B=2;C=[]", 6}, {"([A|A] = [[]|[]])", "[[]]", "A=[]", 4}, {"(a = a)", "a", "", 2}, {"(-7 = -7)", "-7", "", 2}, {"(a = b)", "error:{badmatch,b}", "", 2}, {"({B, {A, B}, [C|_]} = {1, {2, 1}, [3|4]})", "{1,{2,1},[3|4]}", "B=1;A=2;C=3", 9},
		// What the expression binds is bound for the pattern; names come in the order in which they are bound.
		{"({A, B} = {(B = 1), 2})", "error:{badmatch,{1,2}}", "", 5}, {"({A, B} = {2, (B = 1)})", "{2,1}", "B=1;A=2", 5}, {"((A = 1) + (B = A))", "2", "A=1;B=1", 5}, {"{(A = 1), (A = 1), (B = A), A}", "{1,1,1,1}", "A=1;B=1", 8}, {"{(A = 1), (A = 2)}", "error:{badmatch,2}", "", 5}, {"[(A = 1)|[(B = {A})|{A, B}]]", "[1,{1}|{1,{1}}]", "A=1;B={1}", 10}, {"two((A = 1), (B = A))", "{1,1}", "A=1;B=1", 8}, {"o:id((A = X))", "{o,1}", "A=1", 6}, {"{(F = fun m:two/2), F((A = 1), (F = F))}", "{fun m:two/2,{1,fun m:two/2}}", "F=fun m:two/2;A=1", 12}, {"element((A = 1), {(B = A)})", "1", "A=1;B=1", 6}, {"((A = 1) < (B = 2))", "true", "A=1;B=2", 5},
		{"{(V = X), V, (W = V), {W, (U = W)}}", "{1,1,1,{1,1}}", "V=1;W=1;U=1", 10},
	})
}

// P12.2: names that case and its clauses bind are not bound behind it; those ahead of it stay.
func TestNamesOfCase(t *testing.T) {
	wantRows(t, mods(t, text), "X=1", []row{
		{"case (A = 1) of A -> {A, X} end", "{1,1}", "", 6}, {"case (A = 2) of X -> x; A -> {A, X} end", "{2,1}", "", 6}, {"case (A = 2) of X -> x; B when (A =:= B), (X < B) -> {A, B} end", "{2,2}", "", 6}, {"case 2 of A -> (B = A), (C = B), {A, B, C} end", "{2,2,2}", "", 10},
		{"{case 1 of A -> A end, (A = 2), A}", "{1,2,2}", "A=2", 7}, {"{case (A = 1) of _ -> (B = A) end, (A = 2), (B = 3), {A, B}}", "{1,2,3,{2,3}}", "A=2;B=3", 13}, {"{(A = 1), case 2 of B -> (C = {A, B}), C end, (C = A)}", "{1,{1,2},1}", "A=1;C=1", 12}, {"(1 = case 1 of A -> A end)", "1", "", 4}, {"(A = case 2 of A -> (B = A), {A} end)", "{2}", "A={2}", 7}, {"[case 1 of A -> {A} end|case 2 of A -> A end]", "[{1}|2]", "", 8}, {"case case 1 of A -> {A} end of {A} -> A end", "1", "", 6}, {"case 1 of A -> case 2 of B -> case {A, B} of {A, C} -> [A|[B|C]] end end end", "[1,2|2]", "", 13},
		// A clause that does not go binds nothing for the next one.
		{"case {1, 2} of {A, A} -> a; {2, A} -> b; {_, A} -> A end", "2", "", 5}, {"case {1, 2} of {A, B} when (A > B) -> a; {B, A} -> {A, B} end", "{2,1}", "", 7}, {"case 1 of A when is_atom(A) -> a; {A} -> b; B -> (A = {B}) end", "{1}", "", 5},
		// Nor does what goes wrong in it.
		{"try case (A = 1) of A -> error({A}) end catch error:{A} -> (B = A), {A, B} end", "{1,1}", "", 12}, {"try case (A = 2) of X -> 1 end catch _:{C, A} -> {C, A} end", "{case_clause,2}", "", 7}, {"{try case (A = 2) of A -> throw(A) end catch throw:_ -> 3 end, (A = 4)}", "{3,4}", "A=4", 10},
	})
}

// P12.2: names that try, its expression and its clauses bind.
func TestNamesOfTry(t *testing.T) {
	wantRows(t, mods(t, text), "X=1", []row{
		{"try (A = X) catch _:_ -> 1 end", "1", "", 3}, {"{try (A = X) catch _:_ -> 1 end, (A = 2)}", "{1,2}", "A=2", 6}, {"{(A = 1), try (A = 2) catch _:{_, B} -> {A, B} end, A}", "{1,{1,2},1}", "A=1", 10}, {"{(A = 1), try {(B = A), hd(A)} catch C:D -> (B = {C}), {A, B, D} end, (B = 3)}", "{1,{1,{error},badarg},3}", "A=1;B=3", 18},
		{"try {(A = 1), throw(2)} catch throw:A -> A end", "2", "", 7}, {"try {(A = 1), throw(2)} catch A:B -> {A, B} end", "{throw,2}", "", 9}, {"{try {(A = 1), (B = 2), hd(A)} catch C:D -> (A = {D}), {A, C} end, (A = 5), (B = 6), (C = 7), (D = 8)}", "{{{badarg},error},5,6,7,8}", "A=5;B=6;C=7;D=8", 23},
		{"try throw(1) catch throw:X -> {X} end", "{1}", "", 5}, {"try throw(2) catch throw:X -> {X}; C:Y -> {C, X, Y} end", "{throw,1,2}", "", 7}, {"try throw({2, 2}) catch _:{X, _} -> a; _:{A, A} when (A > X) -> {A} end", "{2}", "", 7}, {"try error(error) catch A:A -> {A} end", "{error}", "", 5}, {"try error(exit) catch A:A -> {A} end", "error:exit", "", 3}, {"try exit(exit) catch error:_ -> a; throw:_ -> b; A:A -> {A, A} end", "{exit,exit}", "", 6},
		{"try (A = 1) catch A:A -> A end", "1", "", 3}, {"{(A = try throw({1}) catch _:{A} -> A end), A}", "{1,1}", "A=1", 8}, {"case try exit(a) catch C:A -> {C, A} end of {A, C} -> [A|C] end", "[exit|a]", "", 10},
	})
}

// P12.2: try about what comes to no value, by the class that a clause takes, in one another.
func TestTry(t *testing.T) {
	n := mods(t, text)
	for _, r := range outcomes {
		class, x, ok := strings.Cut(r.out, ":")
		for _, c := range []string{"error", "exit", "throw"} {
			// Three steps are a clause's.
			for e, steps := range map[string]int{
				"try $ catch " + c + ":X -> {got, X} end": 4, "try {1, $} catch " + c + ":X -> {got, X} end": 6, "try try $ catch " + c + ":none -> 1 end catch " + c + ":X -> {got, X} end": 5, "try case 0 of _ -> $ end catch " + c + ":X when (X =:= X) -> {got, X} end": 6,
			} {
				out := "{got," + x + "}"
				if !ok || c != class {
					out, steps = r.out, steps-3
				}
				wantRows(t, n, "X9=9", []row{{strings.Replace(e, "$", r.e, 1), out, "", steps + r.steps}})
			}
		}
		if !ok {
			wantOut(t, n, "try "+r.e+" catch _:_ -> 1 end", r.out, 1+r.steps)
			continue
		}
		wantRows(t, n, "X9=9", []row{
			{"try " + r.e + " catch C:X -> {C, X} end", "{" + class + "," + x + "}", "", 4 + r.steps}, {"try " + r.e + " catch _:_ -> 1, 2 end", "2", "", 3 + r.steps}, {"try " + r.e + " catch C:X when is_tuple(C) -> 1; C:X when (C =:= " + class + ") -> 2 end", "2", "", 2 + r.steps},
			// What goes wrong in a clause is not caught by the same one.
			{"try " + r.e + " catch _:_ -> throw(8); throw:8 -> 7 end", "throw:8", "", 3 + r.steps}, {"try try " + r.e + " catch _:_ -> throw(8) end catch C:X -> {C, X} end", "{throw,8}", "", 7 + r.steps}, {"try try " + r.e + " catch C:X -> exit({C, X}) end catch exit:{C, X} -> {C, X} end", "{" + class + "," + x + "}", "", 9 + r.steps},
		})
		for _, w := range outcomes {
			wantOut(t, n, "try "+r.e+" catch _:_ -> "+w.e+" end", w.out, 1+r.steps+w.steps)
		}
	}
}

// P12.2: try about a value.
func TestTryValue(t *testing.T) {
	n := mods(t, text)
	for _, value := range []string{"1", "error", "{error, a}", "id(throw)"} {
		for _, clause := range []string{"_:_ -> 1", "error:_ -> 1; C:X -> {C, X}", "throw:throw -> 2"} {
			bare := given{N: n, Module: "m", E: expr(t, value)}.run(9)
			want(t, given{N: n, Module: "m", E: expr(t, "try "+value+" catch "+clause+" end")}, bare.out, "", 10-bare.left)
		}
	}
}

// P12.2: as many names as may be handed in, and more that are bound behind them.
func TestManyNames(t *testing.T) {
	n := mods(t, text)
	var l []api.Bind
	var all, again, values []string
	for i := range 2 * api.MaxSlots {
		l = append(l, api.Bind{S: "N" + strconv.Itoa(i), T: num(i)})
	}
	for i := range 120 {
		all = append(all, "N"+strconv.Itoa(i))
		again = append(again, strconv.Itoa(i))
		values = append(values, strconv.Itoa(i))
	}
	pattern := "{" + strings.Join(all, ", ") + "}"
	value := "{" + strings.Join(values, ", ") + "}"
	names := show(l)
	for i := 64; i < 120; i++ {
		names += ";N" + strconv.Itoa(i) + "=" + strconv.Itoa(i)
	}
	told := "{" + strings.Join(values, ",") + "}"
	under := func(e, out, names string, steps int) {
		t.Helper()
		for _, more := range []int{0, 5} {
			got := given{N: n, Module: "m", E: expr(t, e), L: l}.run(steps + more)
			if got != (answer{out: out, l: names, left: more}) {
				t.Errorf("%s with %d: %s and %d left, not %s", brief(e), steps+more, brief(got.out), got.left, brief(out))
			}
		}
	}
	under("("+pattern+" = "+value+")", told, names, 122)
	under("{("+pattern+" = "+value+"), (N3 = 3), (N119 = 119), (M = N118), N0, N119}", "{"+told+",3,119,118,0,119}", names+";M=118", 1+122+8)
	under("case {("+pattern+" = "+value+"), ("+pattern+" = "+value+")} of {_, [_|_]} -> 1; _ -> N119 end", "119", show(l), 1+1+122+122+1)
	for _, at := range []int{0, 1, 63, 64, 119} {
		again[at] = "none"
		wrong := "{" + strings.Join(again, ", ") + "}"
		again[at] = strconv.Itoa(at)
		out := "error:{badmatch," + strings.ReplaceAll(wrong, " ", "") + "}"
		if at < 64 {
			under("("+pattern+" = "+wrong+")", out, show(l), 122)
		}
		under("{("+pattern+" = "+value+"), ("+pattern+" = "+wrong+")}", out, show(l), 1+122+122)
		under("{("+pattern+" = "+value+"), case "+wrong+" of "+pattern+" -> a; [N0|_] -> b; _ when (N119 =:= 118) -> c; _ when (N119 =:= 119), (N0 =:= 0) -> {N64, N119} end}", "{"+told+",{64,119}}", names, 1+122+1+121+3)
		under("{("+pattern+" = "+value+"), try throw("+wrong+") catch _:"+pattern+" -> a; N0:_ -> b; _:_ when (N119 =:= 119), (N0 =:= 0) -> N119 end}", "{"+told+",119}", names, 1+122+2+121+1)
	}
	if _, _, _, e := Expr(n, "m", expr(t, "1"), slices.Concat(l, l[:1]), 9); e != api.ErrArg {
		t.Error("65 names:", e)
	}
	if o, _, _, e := Expr(n, "m", expr(t, "N63"), l, 9); e != api.OK || term.Text(o.T) != "63" {
		t.Error("64 names:", e)
	}
}
