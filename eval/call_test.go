package eval

import (
	"slices"
	"strconv"
	"strings"
	"testing"

	"pleach/api"
	"pleach/rules"
	"pleach/term"
)

// wantCall holds what a call comes to, and how many steps it takes.
func wantCall(t *testing.T, n api.Node, name, args, out string, steps int) {
	t.Helper()
	module, name, _ := strings.Cut(name, ":")
	want(t, given{N: n, Module: module, Name: name, Args: reads(t, args)}, out, "", steps)
}

// P12.1: calls of functions of both modules; the call takes no step itself.
func TestCall(t *testing.T) {
	n := mods(t, text+" fac(0) -> 1; fac(N) -> (N * fac((N - 1))).")
	for _, r := range []struct {
		name, args, out string
		steps           int
	}{
		{"m:id", "a", "a", 1}, {"m:id", "{1,[2|3]}", "{1,[2|3]}", 1}, {"m:id", "fun q:nope/8", "fun q:nope/8", 1}, {"m:seven", "", "7", 1}, {"m:two", "1;a", "{1,a}", 3}, {"o:id", "1", "{o,1}", 3}, {"o:two", "1;2", "{o,{1,2}}", 7}, {"o:home", "1", "1", 3}, {"o:ref", "", "fun m:two/2", 1}, {"m:eight", "1;2;3;4;5;6;7;{}", "{{},7,6,5,4,3,2,1}", 9},
		{"m:up", "1", "2", 4}, {"m:up", "0", "error:function_clause", 0}, {"m:up", "576460752303423487", "error:system_limit", 4}, {"m:up", "a", "error:badarith", 4}, {"m:same", "{1};{1}", "{1}", 1}, {"m:same", "1;a", "error:function_clause", 0}, {"m:only", "1", "one", 1}, {"m:only", "2", "error:function_clause", 0}, {"m:bad", "", "error:bad", 2}, {"m:stop", "", "exit:bad", 2}, {"m:ball", "", "throw:bad", 2}, {"m:take", "", "pure", 1},
		// fac(N) takes six more than fac(N - 1).
		{"o:fac", "0", "1", 1}, {"o:fac", "1", "1", 7}, {"o:fac", "5", "120", 31}, {"o:fac", "20", "error:system_limit", 121}, {"o:fac", "19", "121645100408832000", 115},
	} {
		wantCall(t, n, r.name, r.args, r.out, r.steps)
	}
	for _, r := range []struct{ module, name, args string }{{"m", "fac", "1"}, {"o", "seven", ""}, {"m", "id", ""}, {"m", "id", "1;2"}, {"m", "seven", "1"}, {"q", "id", "1"}, {"", "id", "1"}, {"M", "id", "1"}, {"m", "nope", "1"}, {"m", "hd", "[1]"}, {"m", "self", ""}, {"m", "eight", "1;2;3;4;5;6;7"}, {"m", "eight", "1;2;3;4;5;6;7;8;9"}} {
		wantSteps(t, given{N: n, Module: r.module, Name: r.name, Args: reads(t, r.args)}, 9, answer{e: api.ErrArg}.none())
	}
}

// tries are clauses of one pattern, or of two, with what comes of two terms; each takes two steps, where a clause goes.
var tries = []struct{ clauses, args, out string }{
	{"1 -> a; 2 -> b; _ -> c", "1", "a"}, {"1 -> a; 2 -> b; _ -> c", "2", "b"}, {"1 -> a; 2 -> b; _ -> c", "3", "c"}, {"1 -> a; 1 -> b", "1", "a"}, {"1 -> a; 2 -> b", "{1}", "none"}, {"X -> a; X -> b", "1", "a"},
	{"X when (X > 1) -> a; X when (X > 0) -> b", "2", "a"}, {"X when (X > 1) -> a; X when (X > 0) -> b", "1", "b"}, {"X when (X > 1) -> a; X when (X > 0) -> b", "0", "none"},
	{"X when is_atom(X) -> a; X when is_integer(X) -> b; X when is_list(X) -> c; X when is_tuple(X) -> d; X when is_function(X) -> e; X when is_pid(X) -> f; X when is_reference(X) -> g", "x", "a"}, {"X when is_atom(X) -> a; X when is_tuple(X) -> d; X when is_pid(X) -> f; X when is_reference(X) -> g", "<1>", "f"}, {"X when is_atom(X) -> a; X when is_tuple(X) -> d; X when is_pid(X) -> f; X when is_reference(X) -> g", "#Ref<1>", "g"},
	{"X when (X > 0), (X < 9) -> a; _ -> b", "5", "a"}, {"X when (X > 0), (X < 9) -> a; _ -> b", "9", "b"}, {"X when (X > 0), (X < 9) -> a; _ -> b", "0", "b"},
	// A guard without a value does not hold.
	{"X when ((X + 1) > 0) -> a; _ -> b", "x", "b"}, {"X when ((X + 1) =/= 0) -> a; _ -> b", "576460752303423487", "b"}, {"X when ((X + 1) =/= 0) -> a; _ -> b", "576460752303423486", "a"}, {"X when is_integer(X), is_integer((X + 1)) -> a; {X} when is_integer((X * X)) -> b; {_} -> c", "{a}", "c"}, {"X when is_integer(X), is_integer((X + 1)) -> a; {X} when is_integer((X * X)) -> b; {_} -> c", "{7}", "b"},
	{"{X, Y} when (X < Y) -> a; {X, X} -> b; {_, _} -> c; [X|X] -> d; [_|[]] -> e; [1|[_|_]] -> f", "{1,2}", "a"}, {"{X, Y} when (X < Y) -> a; {X, X} -> b; {_, _} -> c; [X|X] -> d; [_|[]] -> e; [1|[_|_]] -> f", "{2,2}", "b"}, {"{X, Y} when (X < Y) -> a; {X, X} -> b; {_, _} -> c; [X|X] -> d; [_|[]] -> e; [1|[_|_]] -> f", "{3,2}", "c"}, {"{X, Y} when (X < Y) -> a; {X, X} -> b; {_, _} -> c; [X|X] -> d; [_|[]] -> e; [1|[_|_]] -> f", "[2|2]", "d"}, {"{X, Y} when (X < Y) -> a; {X, X} -> b; {_, _} -> c; [X|X] -> d; [_|[]] -> e; [1|[_|_]] -> f", "[2]", "e"}, {"{X, Y} when (X < Y) -> a; {X, X} -> b; {_, _} -> c; [X|X] -> d; [_|[]] -> e; [1|[_|_]] -> f", "[1,2]", "f"}, {"{X, Y} when (X < Y) -> a; {X, X} -> b; {_, _} -> c; [X|X] -> d; [_|[]] -> e; [1|[_|_]] -> f", "[2,2]", "none"}, {"{X, Y} when (X < Y) -> a; {X, X} -> b; {_, _} -> c; [X|X] -> d; [_|[]] -> e; [1|[_|_]] -> f", "{2,2,2}", "none"},
	{"[] -> a; {} -> b; fun_a -> c", "[]", "a"}, {"[] -> a; {} -> b", "{}", "b"}, {"[] -> a; {} -> b", "fun a:b/1", "none"}, {"a -> a; b -> b", "b", "b"}, {"-1 -> a; 576460752303423487 -> b", "-1", "a"}, {"-1 -> a; 576460752303423487 -> b", "576460752303423487", "b"},
}

// function is a module of a function f of those clauses of one pattern.
func function(clauses string) string {
	var l []string
	for c := range strings.SplitSeq(clauses, "; ") {
		head, body, _ := strings.Cut(c, " -> ")
		pattern, guard, _ := strings.Cut(head+" ", " ")
		l = append(l, strings.TrimSpace("f("+pattern+") "+guard)+" -> "+body)
	}
	return "module m. " + strings.Join(l, "; ") + "."
}

// P12.1, P12.2: the first clause that goes, of a function, of case and of try.
func TestClauses(t *testing.T) {
	for _, r := range tries {
		n := mods(t, function(strings.ReplaceAll(r.clauses, ", ", ",")))
		names := "V=" + r.args
		under := func(e, out string, steps int) {
			t.Helper()
			want(t, given{N: n, Module: "q", E: expr(t, strings.ReplaceAll(e, "; $", "; "+r.clauses)), L: binds(t, names)}, out, names, steps)
		}
		called, chosen, thrown, steps := r.out, r.out, r.out, 1
		if r.out == "none" {
			called, chosen, thrown, steps = "error:function_clause", "error:{case_clause,"+r.args+"}", "throw:"+r.args, 0
		}
		wantCall(t, n, "m:f", r.args, called, steps)
		under("case V of "+r.clauses+" end", chosen, 2+steps)
		for _, class := range []string{"throw:", "Class:", "_:"} {
			caught := class + strings.ReplaceAll(r.clauses, "; ", "; "+class)
			under("try throw(V) catch "+caught+" end", thrown, 3+steps)
			under("try throw(V) catch exit:V -> z; error:_ -> z; throw:{V} -> z; "+caught+" end", thrown, 3+steps)
		}
	}
}

// P12.1: names of a clause are its own: a caller's are not bound in it, and its are not bound behind.
func TestNamesOfCalls(t *testing.T) {
	n := mods(t, "module m. f(X) -> (Y = {X}), {X, Y}. g(X, Y) -> f(Y), (Z = f({X})), {X, Y, Z}. h(N) when (N > 0) -> (X = N), h((N - 1)), {X, N}; h(N) -> (X = N), {X}. k(X, Y, X) -> Y; k(X, Y, _) -> {X, Y}.")
	wantCall(t, n, "m:f", "1", "{1,{1}}", 6)
	wantCall(t, n, "m:g", "1;2", "{1,2,{{1},{{1}}}}", 22)
	wantCall(t, n, "m:h", "0", "{0}", 4)
	wantCall(t, n, "m:h", "3", "{3,3}", 31)
	wantCall(t, n, "m:k", "1;2;1", "2", 1)
	wantCall(t, n, "m:k", "1;2;3", "{1,2}", 3)
	wantRows(t, n, "X=8;Y=9", []row{{"f(1)", "{1,{1}}", "", 8}, {"{f(1), X, Y}", "{{1,{1}},8,9}", "", 11}, {"{g(Y, X), (N = 1), h(0), N}", "{{9,8,{{9},{{9}}}},1,{0},1}", "N=1", 35}})
}

// P12.1, P12.2: a call at a depth of MaxStack - 1 comes to nothing; what stands in no other call is at no depth.
func TestDeep(t *testing.T) {
	n := mods(t, "module m. f(0) -> 0; f(N) -> f((N - 1)). g(0) -> hd([]); g(N) -> (1 + g((N - 1))). h(0, X) -> X; h(N, X) -> (Y = h((N - 1), X)), {N}, Y. t(0) -> throw(low); t(N) -> try t((N - 1)) catch error:_ -> never end. a(F, 0) -> F(0); a(F, N) -> a(F, (N - 1)). e(0) -> {element(1, {a}), tuple_size({}), (1 + 1)}; e(N) -> e((N - 1)). c(0) -> 0; c(N) when (N > 0) -> c((N - 1)). p(0) -> self(); p(N) -> p((N - 1)). module o. f(0) -> 0; f(N) -> m:f((N - 1)). r(0) -> 0; r(N) -> s(N). s(0) -> 0; s(N) -> o:r((N - 1)). both(N) -> {m:f(N), m:f(N), (A = m:f(N)), m:f((N + A))}.")
	for _, r := range []struct {
		name      string
		args      string // with N for how many calls stand in the first one
		deep      int    // so many are as many as may be
		last, end string // what comes of as many, of one more
		per       int    // steps of each call but the first one
		ahead     int    // of the last one
	}{
		{"m:f", "N", 62, "0", "deep", 4, 1}, {"o:f", "N", 62, "0", "deep", 4, 1}, {"m:g", "N", 62, "error:badarg", "deep", 6, 2}, {"m:h", "N;a", 62, "a", "deep", 9, 1}, {"m:t", "N", 62, "throw:low", "deep", 5, 2}, {"m:e", "N", 62, "{a,0,2}", "deep", 4, 10}, {"m:p", "N", 62, "pure", "deep", 4, 1}, {"m:a", "fun m:f/1;N", 61, "0", "deep", 5, 4}, {"m:a", "fun m:nope/1;N", 62, "error:{badfun,fun m:nope/1}", "deep", 5, 3}, {"m:a", "7;N", 62, "error:{badfun,7}", "deep", 5, 3},
	} {
		for _, k := range []int{0, 1, 2, 30, r.deep - 1, r.deep} {
			args := strings.Replace(r.args, "N", strconv.Itoa(k), 1)
			module, name, _ := strings.Cut(r.name, ":")
			g := given{N: n, Module: module, Name: name, Args: reads(t, args)}
			steps := r.per*k + r.ahead
			wantSteps(t, g, steps, answer{out: r.last})
			wantSteps(t, g, most, answer{out: r.last, left: most - steps})
			wantSteps(t, g, steps-1, answer{out: "fuel"})
		}
		for _, k := range []int{r.deep + 1, r.deep + 2, 1000} {
			args := strings.Replace(r.args, "N", strconv.Itoa(k), 1)
			module, name, _ := strings.Cut(r.name, ":")
			if got := (given{N: n, Module: module, Name: name, Args: reads(t, args)}).run(most); got.out != r.end {
				t.Errorf("%s %s: %+v", r.name, args, got)
			}
		}
	}
	wantRows(t, n, "", []row{
		{"f(62)", "0", "", 251}, {"{f(62), f(62)}", "{0,0}", "", 503}, {"m:f(62)", "0", "", 251}, {"f(f(62))", "0", "", 253}, {"(f(62) + f(f(62)))", "0", "", 505}, {"try f(hd([])) catch _:_ -> f(62) end", "0", "", 255}, {"try g(62) catch _:_ -> f(62) end", "0", "", 628}, {"case f(62) of 0 -> f(62) end", "0", "", 503}, {"o:both(61)", "{0,0,0,0}", "", 3 + 2*247 + 248 + 249}, {"{(F = fun m:f/1), F(62)}", "{fun m:f/1,0}", "F=fun m:f/1", 255},
		// The last call takes no step but for what calls it, and its argument.
		{"f(63)", "deep", "", 254}, {"{1, f(62), f(63), error(a)}", "deep", "", 507}, {"try f(63) catch _:_ -> 1 end", "deep", "", 255}, {"o:both(62)", "deep", "", 2 + 3 + 248}, {"c(-1)", "error:function_clause", "", 2}, {"f(-1)", "deep", "", 254}, {"o:r(31)", "0", "", 31*6 + 3}, {"o:r(32)", "deep", "", 31*6 + 4},
	})
	// At that depth even a call that no clause takes is one too many.
	wantRows(t, mods(t, "module m. f(0) -> g(a); f(N) -> f((N - 1)). g(1) -> 1."), "", []row{{"f(61)", "error:function_clause", "", 2 + 61*4 + 2}, {"f(62)", "deep", "", 2 + 62*4 + 2}})
}

// P12.1: what goes wrong in calls in one another is found through all of them.
func TestFaults(t *testing.T) {
	n := mods(t, "module m. f(X) -> o:g(X). module o. g(X) -> throw({X}). w() -> receive X -> X end.")
	r, ok := newRun(n, 9)
	_, err := r.call(api.Fn{S: "m", T: "f", N: 1}, []api.Term{num(7)})
	o, raises := raised(err)
	if !ok || !raises || tell(o) != "throw:{7}" || err.Error() != "m:f/1: o:g/1: throw {7}" {
		t.Error(ok, raises, tell(o), err)
	}
	_, err = r.call(api.Fn{S: "o", T: "w"}, nil)
	o, raises = raised(err)
	if raises || tell(o) != "0" || tell(outOf(api.Term{}, err)) != "pure" || err.Error() != "o:w/0: nothing, by 3" {
		t.Error(raises, tell(o), err)
	}
	if o, raises := raised(nil); raises || tell(o) != "0" || tell(outOf(num(7), nil)) != "7" {
		t.Error("of no fault", raises)
	}
}

// P12.2: NdApply of what is no function, of one with another number of arguments, of one that is not there.
func TestApply(t *testing.T) {
	n := mods(t, text)
	for _, x := range append(rising, "fun m:id/3", "fun m:two/1", "fun x:two/2") {
		wantRows(t, n, "F="+x, []row{{"F()", "error:{badfun," + x + "}", "", 2}, {"F((X = 1))", "error:{badfun," + x + "}", "", 4}, {"try F(1, 2, 3, 4, 5, 6, 7, 8) catch error:{badfun, X} -> X end", x, "", 12}})
	}
	for _, r := range []struct{ fun, out string }{
		{"fun m:id/1", "7"}, {"fun o:id/1", "{o,7}"}, {"fun m:two/2", ""}, {"fun m:seven/0", ""}, {"fun m:id/2", ""}, {"fun m:id/0", ""}, {"fun m:nope/1", ""}, {"fun q:id/1", ""}, {"fun m:hd/1", ""}, {"fun m:error/1", ""}, {"fun m:self/0", ""}, {"{fun,m,id,1}", ""}, {"id", ""}, {"[fun m:id/1]", ""}, {"1", ""}, {"#Ref<1>", ""}, {"<1>", ""}, {"{m,id}", ""},
	} {
		out, steps := r.out, 3
		switch out {
		case "":
			out = "error:{badfun," + r.fun + "}"
		case "7":
			steps = 4
		default:
			steps = 6
		}
		wantRows(t, n, "F="+r.fun, []row{{"F(7)", out, "", steps}, {"{(Y = 7), F(Y)}", map[bool]string{true: out, false: "{7," + out + "}"}[r.out == ""], map[bool]string{true: "", false: "Y=7"}[r.out == ""], steps + 3}})
	}
	// A fun's function is of its module, and so are the calls in it.
	wantRows(t, n, "F=fun o:two/2;G=fun m:two/2;H=fun o:home/1", []row{{"F(1, 2)", "{o,{1,2}}", "", 11}, {"G(1, 2)", "{1,2}", "", 7}, {"H(1)", "1", "", 6}, {"{F(1, 2), id(1)}", "{{o,{1,2}},1}", "", 15}})
	wantSteps(t, given{N: n, Module: "o", E: expr(t, "{id(1), m:id(1), id(2)}")}, 99, answer{out: "{{o,1},1,{o,2}}", left: 85})
}

// P12.1, P12.2: terms that become greater than may be.
func TestGreatTerms(t *testing.T) {
	n := mods(t, "module m. pair(X, Y) -> {X, Y}. cons(X, Y) -> [X|Y]. match(X) -> (none = X). choose(X) -> case X of none -> 1 end. apply(X) -> X(). caught(X) -> try X() catch error:{badfun, Y} -> Y; error:system_limit -> limit end. give(X) -> error(X). only(none) -> 1.")
	for _, r := range []struct {
		name string
		one  bool
		room int // nodes that it puts to its arguments'
		fits string
	}{
		{"pair", false, 1, "{$}"}, {"cons", false, 1, "[$]"}, {"match", true, 2, "error:{badmatch,$}"}, {"choose", true, 2, "error:{case_clause,$}"}, {"apply", true, 2, "error:{badfun,$}"}, {"caught", true, 2, "$"}, {"give", true, 0, "error:$"}, {"only", true, 0, "error:function_clause"},
	} {
		for _, size := range []int{1, 2, 100, 128, 252, 253, 254, 255, 256} {
			args := []api.Term{wide(size)}
			in := term.Text(args[0])
			total := size + r.room
			if !r.one {
				args = append(args, wide(max(1, 255-size)))
				in += "," + term.Text(args[1])
				total += term.Size(args[1])
			}
			want := strings.Replace(r.fits, "$", in, 1)
			if r.name == "cons" {
				want = term.Text(api.Term{K: api.KCons, L: args})
			}
			if total > api.MaxTerm {
				want = map[bool]string{true: "limit", false: "error:system_limit"}[r.name == "caught"]
			}
			if got := (given{N: n, Module: "m", Name: r.name, Args: args}).run(9); got.out != want || got.e != api.OK {
				t.Errorf("%s of %d: %+v, not %s", r.name, size, brief(got.out), brief(want))
			}
		}
	}
	many := strings.TrimSuffix(strings.Repeat("1, ", 256), ", ")
	for parts, want := range map[int]string{254: "value", 255: "value", 256: "error:system_limit"} {
		e := expr(t, "{"+many[:3*parts-2]+"}")
		if got := (given{N: n, Module: "m", E: e}).run(parts + 1); got.left != 0 || want == "value" && got.out != term.Text(wide(parts+1)) || want != "value" && got.out != want {
			t.Error(parts, brief(got.out))
		}
	}
	// All parts are gone over, also behind those that are too many already.
	e := expr(t, "{"+many+", throw(a)}")
	wantSteps(t, given{N: n, Module: "m", E: e}, 259, answer{out: "throw:a"})
}

// P12.3: with more steps it comes to the same; functions behind others change nothing.
func TestBehind(t *testing.T) {
	n := mods(t, text)
	behind := mods(t, strings.Replace(text, " module o", " new(X) -> (Y = X), new(Y). ida() -> 1. id(X, Y) -> bad(), {X, Y}. module o", 1)+" seven() -> 8. bad() -> 9. new(_) -> 1. module p. id(_) -> 0. new() -> m:ida().")
	if _, e := rules.Check(behind); e != api.OK {
		t.Fatal(e)
	}
	for _, f := range rules.Functions(n) {
		for _, x := range []string{"0", "1", "a", "{1,2}", "fun m:id/1", "[1|2]"} {
			args := slices.Repeat([]api.Term{read(t, x)}, f.N)
			var last answer
			for steps := range 30 {
				got := (given{N: n, Module: f.S, Name: f.T, Args: args}).run(steps)
				if more := (given{N: behind, Module: f.S, Name: f.T, Args: args}).run(steps); more != got {
					t.Errorf("%v %s with %d: %+v, with functions behind %+v", f, x, steps, got, more)
				}
				if steps > 0 && last.out != "fuel" && (got.out != last.out || got.left != last.left+1) {
					t.Errorf("%v %s with %d: %+v, ahead %+v", f, x, steps, got, last)
				}
				last = got
			}
		}
	}
	for _, r := range outcomes {
		for _, n := range []api.Node{n, behind} {
			wantRows(t, n, "X9=9", []row{r})
		}
	}
}
