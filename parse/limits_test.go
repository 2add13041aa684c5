package parse

import (
	"strings"
	"testing"

	"pleach/api"
	"pleach/ast"
)

const above = "576460752303423488" // MaxInt + 1

// nested is a text with so many of those around it.
func nested(first string, many int, in, last string) string {
	return strings.Repeat(first, many) + in + strings.Repeat(last, many)
}

// listed is so many of those, with commas between.
func listed(s string, many int) string { return strings.TrimSuffix(strings.Repeat(s+",", many), ",") }

// readings are the calls that read one thing.
func readings() []func(s string) (api.Node, api.Flaw) {
	return []func(s string) (api.Node, api.Flaw){Expr, Pattern, Mods}
}

// wantSize holds that a text is read, to a tree of that size; -1: of any.
func wantSize(t *testing.T, read func(s string) (api.Node, api.Flaw), s string, nodes, deep int) {
	t.Helper()
	n, f := read(s)
	a, b := ast.Size(n)
	if f != (api.Flaw{}) || nodes >= 0 && a != nodes || deep >= 0 && b != deep {
		t.Errorf("%.100q: %v, %d nodes, %d deep, not %d, %d", s, f, a, b, nodes, deep)
	}
}

// wantRefused holds a fault of one of the calls.
func wantRefused(t *testing.T, read func(s string) (api.Node, api.Flaw), s string, e api.Errno, at int) {
	t.Helper()
	for range 2 {
		n, f := read(s)
		wantFault(t, "a reading", s, n, f, api.Flaw{E: e, At: at})
	}
}

// P8.1: integers above the greatest one, with - ahead and without.
func TestGreatIntegers(t *testing.T) {
	for _, s := range []string{above, above + " = a", above + " #", "0" + above} {
		patternFault(t, s, api.ErrLimit, 0)
		guardedFault(t, s, api.ErrLimit, 0)
		exprFault(t, s, api.ErrLimit, 0)
	}
	patternFault(t, "{a, "+above+"}", api.ErrLimit, 4)
	patternFault(t, "[-"+above+"|"+above+"]", api.ErrLimit, 21)
	patternFault(t, "--"+above, api.ErrParse, 1)
	exprFault(t, "(X - "+above+")", api.ErrLimit, 5)
	exprFault(t, "(X-"+above+")", api.ErrLimit, 3)
	testFault(t, "is_atom((X - "+above+"))", api.ErrLimit, 13)
	exprFault(t, "-576460752303423489", api.ErrLimit, 1)
	exprFault(t, "- 99999999999999999999999", api.ErrLimit, 2)
	wantExpr(t, "(X - -"+above+")", op("-", v("X"), num(-api.MaxInt-1)))
	wantExpr(t, "(X--"+above+")", op("-", v("X"), num(-api.MaxInt-1)))
	wantPattern(t, "{-"+above+", -000"+above+"}", tuple(num(-api.MaxInt-1), num(-api.MaxInt-1)))
	wantGuarded(t, "(-"+above+" - -"+above+")", op("-", num(-api.MaxInt-1), num(-api.MaxInt-1)))
}

// P8.1: fun M:F/N.
func TestGreatArities(t *testing.T) {
	for n, s := range []string{"0", "1", "2", "3", "4", "5", "6", "7", "8"} {
		wantExpr(t, "fun m:g/"+s, ref("m", "g", n))
	}
	for _, s := range []string{"9", "10", "009", "255", "256", "264", "576460752303423487", above, "576460752303423489", "9 #", "9 ("} {
		exprFault(t, "fun m:g/"+s, api.ErrLimit, 8)
		exprFault(t, "{a, fun m:g / "+s, api.ErrLimit, 14)
	}
}

// P8.1: as many patterns and arguments as may be, and a comma behind them.
func TestArity(t *testing.T) {
	for _, in := range []string{"f(", "m:f(", "X(", "{f(", "g(1, f(", "f(" + listed("1", 7) + ", g(", "(X = f(", "[f(" + listed("1", 8) + ")|X(", "X(" + listed("Y()", 7) + ", m:g("} {
		for _, each := range []string{"1", "{a, b, c, d, e, f, g, h, i}", "g(" + listed("X", 8) + ")", "X(" + listed("{}", 8) + ")"} {
			s := in + listed(each, 8)
			arityFault(t, Expr, s)
			arityFault(t, Mods, "module m. f() -> "+s)
			exprFault(t, s, api.ErrParse, len(s))
			exprFault(t, s+"]", api.ErrParse, len(s))
		}
	}
	for _, in := range []string{"module m. f(", "module m. f() -> 1. g(", "module m. f(" + listed("_", 8) + ") -> f(" + listed("X", 8) + "); f(", "module m. f(X) -> 1; f(", "module m. f() -> 1; f("} {
		for _, each := range []string{"1", "X", "{a, b, c, d, e, f, g, h, i}", "[[]|[]]"} {
			s := in + listed(each, 8)
			arityFault(t, Mods, s)
			modsFault(t, s+",", api.ErrLimit, len(s)+1)
			modsFault(t, s, api.ErrParse, len(s))
		}
	}
	wantSize(t, Mods, "module m. f("+listed("X", 8)+") -> f("+listed("X", 8)+").", -1, -1)
}

// arityFault holds that a comma behind s is one too many, whatever stands behind it.
func arityFault(t *testing.T, read func(s string) (api.Node, api.Flaw), s string) {
	t.Helper()
	for _, behind := range []string{"1", ")", ",", "end", "-", ".", "config", "X()", "f(", "1)", "fun #", above, "]", "when #"} {
		wantRefused(t, read, s+","+behind, api.ErrLimit, len(s)+1)
		wantRefused(t, read, s+" , "+behind+" #", api.ErrLimit, len(s)+3)
	}
	wantRefused(t, read, s+",", api.ErrLimit, len(s)+1)
	wantRefused(t, read, s+", % \n ", api.ErrLimit, len(s)+6)
	// Where what stands behind the comma is no token, there is none there.
	for _, flawed := range noTokens() {
		for _, behind := range []string{flawed, " " + flawed, " %,\n" + flawed + " a) ", flawed + flawed} {
			wantRefused(t, read, s+","+behind, api.ErrLimit, len(s+","+behind))
		}
	}
}

// noTokens are texts at which a scan ends by a flaw.
func noTokens() []string {
	return []string{"#", "$", "\xff", strings.Repeat("b", 33), strings.Repeat("B", 40), "576460752303423489", "1152921504606846976"}
}

// P8.1: with a pattern or an argument fewer, a comma ahead of no token is none too many.
func TestFewerAheadOfNoToken(t *testing.T) {
	for _, flawed := range noTokens() {
		e := api.ErrLimit
		if len(flawed) == 1 {
			e = api.ErrScan
		}
		for _, in := range []string{"f(", "m:f(", "X("} {
			s := in + listed("a", 7) + ","
			wantRefused(t, Expr, s+flawed+" a", e, len(s))
			wantRefused(t, Expr, s+"b "+flawed, e, len(s)+2)
		}
		s := "module m. f(" + listed("X", 7) + ","
		modsFault(t, s+flawed+") -> 1.", e, len(s))
		modsFault(t, s+"X"+", % \n"+flawed, api.ErrLimit, len(s)+6+len(flawed))
	}
}

// P8.1: lists that have no limit of their own.
func TestLongLists(t *testing.T) {
	for _, many := range []int{8, 9, 10, 64, 500} {
		for _, read := range readings()[:2] {
			wantSize(t, read, "{"+listed("a", many)+"}", many+1, 2)
		}
		for _, c := range []struct {
			s           string
			nodes, deep int
		}{
			{"case X of a -> " + listed("b", many) + " end", many + 5, 3},
			{"receive after a -> " + listed("b", many) + " end", many + 3, 3},
			{"receive " + strings.Repeat("a -> b;", many-1) + "a -> b end", 4*many + 1, 3},
			{"case X of " + strings.Repeat("a -> b;", many-1) + "a -> b end", 4*many + 2, 3},
			{"try X catch " + strings.Repeat("X:a -> b;", many-1) + "X:a -> b end", 5*many + 2, 3},
		} {
			wantSize(t, Expr, c.s, c.nodes, c.deep)
		}
		for _, c := range []struct {
			s           string
			nodes, deep int
		}{
			{"module m. f() when " + listed("(X<Y)", many) + " -> a.", 3*many + 6, 7},
			{"module m. f() when is_atom({" + listed("a", many) + "}) -> a.", many + 8, 8},
			{"module m. " + strings.Repeat("f() -> a;", many-1) + "f() -> a.", 3*many + 3, 5},
			{"module m. " + strings.Repeat("f() -> a.", many), 4*many + 2, 5},
			{strings.Repeat("module m.", many), many + 1, 2},
		} {
			wantSize(t, Mods, c.s, c.nodes, c.deep)
		}
	}
}

// P8.1: trees of as many nodes as may be, and of one more.
func TestNodes(t *testing.T) {
	for _, read := range readings()[:2] {
		wantSize(t, read, "{"+listed("a", api.MaxNodes-1)+"}", api.MaxNodes, 2)
	}
	// Alternatives of four nodes each, and one with some more expressions, which are one node each.
	s := "receive " + strings.Repeat("a->b;", 1022) + "a->b,c,d,e"
	wantSize(t, Expr, s+" end", api.MaxNodes, 3)
	wantRefused(t, Expr, s+",f end", api.ErrLimit, 0)
	wantRefused(t, Expr, " % x\n "+s+",f end ", api.ErrLimit, 0)
	wantRefused(t, Expr, s+",f,g,h,i,j,k end", api.ErrLimit, 0)
	wantRefused(t, Expr, s+",f end .", api.ErrParse, len(s)+7)
	wantRefused(t, Expr, s+",f end #", api.ErrScan, len(s)+7)
	wantRefused(t, Expr, s+",f", api.ErrParse, len(s)+2)
	s = "module m. f() -> receive " + strings.Repeat("a->b;", 1021) + "a->b,c,d"
	wantSize(t, Mods, s+" end.", api.MaxNodes, 7)
	n, config, f := Text(s + " end. config")
	if nodes, _ := ast.Size(n); nodes != api.MaxNodes || config != len(s)+12 || f != (api.Flaw{}) {
		t.Error(nodes, config, f)
	}
	modsFault(t, s+",e end.", api.ErrLimit, 0)
	modsFault(t, s+",e,f,g,h end.", api.ErrLimit, 0)
	modsFault(t, s+" end. module n.", api.ErrLimit, 0)
	modsFault(t, s+",e end. 1", api.ErrParse, len(s)+8)
	modsFault(t, s+",e end", api.ErrParse, len(s)+6)
	n, config, f = Text(s + ",e end. config")
	wantFault(t, "Text", s, n, f, api.Flaw{E: api.ErrLimit})
	if config != -1 {
		t.Error(config)
	}
}

// P8.1: trees as deep as may be, and one deeper.
func TestDepth(t *testing.T) {
	for _, c := range []struct {
		first, in, last string
		most, deep      int // so many may be in one another; how deep these are
	}{
		{"{", "a", "}", 63, 64}, {"{b,", "X", "}", 63, 64}, {"[a|", "[]", "]", 63, 64}, {"[", "[]", "|a]", 63, 64},
		{"f(", "a", ")", 63, 64}, {"m:f(1,", "X", ",2)", 63, 64}, {"X(", "1", ")", 63, 64}, {"(", "X", "+Y)", 63, 64}, {"(X=", "Y", ")", 63, 64}, {"(1 rem ", "fun m:f/1", ")", 63, 64},
		{"case ", "X", " of _ -> a end", 62, 64}, {"try ", "X", " catch _:_ -> a end", 62, 64},
		{"case X of _ -> ", "{}", " end", 31, 63}, {"try X catch _:_ -> ", "a", " end", 31, 63}, {"receive _ -> ", "a", " end", 31, 63}, {"receive after 1 -> ", "a", " end", 31, 63}, {"receive after ", "X", " -> a end", 31, 63},
		{"case X of _ -> ", "{{}}", " end", 31, 64}, {"{receive after 1 -> ", "a", " end}", 21, 64},
	} {
		wantSize(t, Expr, nested(c.first, c.most, c.in, c.last), -1, c.deep)
		for _, more := range []int{1, 2, 5} {
			s := nested(c.first, c.most+more, c.in, c.last)
			wantRefused(t, Expr, s, api.ErrLimit, 0)
			wantRefused(t, Expr, " "+s, api.ErrLimit, 0)
			wantRefused(t, Expr, s+" end", api.ErrParse, len(s)+1)
			wantRefused(t, Expr, s+" #", api.ErrScan, len(s)+1)
		}
	}
	for _, many := range []int{64, 65, 100, 127} {
		s := nested("{", many, "a", "}")
		wantRefused(t, Pattern, s, api.ErrLimit, 0)
		wantRefused(t, Pattern, s+" a", api.ErrParse, len(s)+1)
		wantRefused(t, Pattern, nested("[", many, "[]", "|a]"), api.ErrLimit, 0)
	}
	wantSize(t, Pattern, nested("{", 63, "a", "}"), -1, api.MaxDepth)
	wantSize(t, Pattern, nested("[", 63, "[]", "|a]"), -1, api.MaxDepth)
}

// P8.1, P8.2: modules as deep as may be, and deeper ones.
func TestDeepModules(t *testing.T) {
	for _, c := range []struct {
		first, last string
		most        int
	}{
		{"module m. f(", ") -> 1.", 59}, {"module m. f() -> ", ".", 59}, {"module m. f() when is_atom(", ") -> 1.", 57}, {"module m. f() when (", " < 1) -> 1.", 57}, {"module m. f() -> 1; f() -> 2, ", ", 3.", 59},
	} {
		s := func(many int) string { return c.first + nested("{", many, "a", "}") + c.last }
		wantSize(t, Mods, s(c.most), -1, api.MaxDepth)
		for _, more := range []int{1, 2, 7, 60} {
			modsFault(t, s(c.most+more), api.ErrLimit, 0)
			modsFault(t, s(c.most+more)+" 1", api.ErrParse, len(s(c.most+more))+1)
			n, config, f := Text(s(c.most+more) + "config a")
			wantFault(t, "Text", s(c.most+more), n, f, api.Flaw{E: api.ErrLimit})
			if config != -1 {
				t.Error(config)
			}
		}
	}
}

// P8.1: an Expr ahead of = that would be a pattern, but for its size.
func TestDeepMatch(t *testing.T) {
	left := func(many int) string { return "(" + nested("{", many, "a", "}") + " = 1)" }
	wantSize(t, Expr, left(62), -1, api.MaxDepth)
	wantRefused(t, Expr, left(63), api.ErrLimit, 0)
	for _, many := range []int{64, 65, 100, 126} {
		wantRefused(t, Expr, left(many), api.ErrParse, 2*many+3)
		wantRefused(t, Expr, left(many)+" #", api.ErrParse, 2*many+3)
	}
	wantRefused(t, Expr, "("+nested("{", 64, "a", "}")+" + 1)", api.ErrLimit, 0)
}

// P8.1: rules in one another, as many as may be, and one more.
func TestNests(t *testing.T) {
	for _, first := range []string{"{", "[", "{a,", "[a|", "{{}, [], "} {
		wantNest(t, Pattern, first, "{")
		wantNest(t, Pattern, first, "[")
	}
	for _, first := range []string{"{", "[", "{a,", "[a|", "(", "(1 + ", "(X = ", "f(", "f(1,", "m:f(", "X(", "case ", "try ", "receive after ", "receive after 1 -> ", "receive _ -> ", "receive a -> b; _ -> 1, ", "case X of _ -> ", "case {} of a -> b; _ when is_atom({}) -> c, ", "try X catch _:_ -> ", "try X catch _:_ when (a < {}) -> a, "} {
		wantNest(t, Expr, first, "{")
		wantNest(t, Expr, " "+first+"\n", "f( %\n")
	}
	for _, last := range []string{"[", "(", "f(", "m:f(", "X(", "case ", "try ", "receive ", "receive after "} {
		wantNest(t, Expr, "{", last)
	}
}

// wantNest holds that 2 * MaxDepth may stand in one another, and no more: of the first sort all but the last one.
func wantNest(t *testing.T, read func(s string) (api.Node, api.Flaw), first, last string) {
	t.Helper()
	s := strings.Repeat(first, 2*api.MaxDepth-1)
	wantRefused(t, read, s, api.ErrParse, len(s))
	wantRefused(t, read, s+"a", api.ErrParse, len(s)+1)
	wantRefused(t, read, s+"{} .", api.ErrParse, len(s)+3)
	wantRefused(t, read, s+"[].", api.ErrParse, len(s)+2)
	s += last
	for _, behind := range []string{"a", "X", "1", "-1", "{", "[", "{}", above, "a #"} {
		wantRefused(t, read, s+behind, api.ErrLimit, len(s))
		wantRefused(t, read, s+" "+behind, api.ErrLimit, len(s)+1)
	}
	wantRefused(t, read, s, api.ErrLimit, len(s))
	wantRefused(t, read, s+" %a", api.ErrLimit, len(s)+3)
	for _, flawed := range noTokens() {
		wantRefused(t, read, s+flawed, api.ErrLimit, len(s+flawed))
		wantRefused(t, read, s+" "+flawed+" }", api.ErrLimit, len(s+flawed)+3)
	}
}

// P8.1: patterns and guard expressions within expressions count, too; what is closed does not, and neither do the rules between.
func TestOtherNests(t *testing.T) {
	full := strings.Repeat("{", 2*api.MaxDepth)
	for _, in := range []string{"case X of ", "receive ", "try X catch _:", "case X of _ when is_atom(", "receive _ when (", "receive _ when (1 < ", "try X catch exit:_ when is_pid("} {
		s := full[2:] + in
		wantRefused(t, Expr, s+"{a", api.ErrLimit, len(s)+1)
		wantRefused(t, Expr, s+"[{", api.ErrLimit, len(s)+1)
		wantRefused(t, Expr, s+"{", api.ErrLimit, len(s)+1)
		wantRefused(t, Expr, s+"{#", api.ErrLimit, len(s)+2)
		wantRefused(t, Expr, s+"#", api.ErrScan, len(s))
		wantRefused(t, Expr, s+"{a #", api.ErrLimit, len(s)+1)
		wantRefused(t, Expr, s+"a}", api.ErrParse, len(s)+1)
	}
	for first, last := range map[string]string{"{": "}", "[": "]", "f(": ")", "X(": ")"} {
		s := strings.Repeat(first, 2*api.MaxDepth) + last
		wantRefused(t, Expr, s, api.ErrParse, len(s))
		wantRefused(t, Expr, s+" +", api.ErrParse, len(s)+1)
	}
	s := full[1:] + "receive "
	wantRefused(t, Expr, s+"end", api.ErrParse, len(s))
	wantRefused(t, Expr, s+"after 1", api.ErrLimit, len(s)+6)
	for _, s := range []string{"{" + listed("{}", 200) + "}", "{" + listed("[a|[]]", 200) + "}", "f(" + listed("{{{}}}", 8) + ")", "receive " + strings.Repeat("{a} -> {b};", 150) + "{a} -> {b} after {} -> " + listed("{c}", 150) + " end", "(X = {" + listed("(1 + 2)", 140) + "})"} {
		wantSize(t, Expr, s, -1, -1)
	}
	for _, in := range []string{"module m. f(", "module m. f(X, ", "module m. f() -> ", "module m. f() when is_atom(", "module m. f() -> 1; f() when (X < Y), (1 < "} {
		modsFault(t, in+full+"a", api.ErrLimit, len(in+full))
		modsFault(t, in+full+"{", api.ErrLimit, len(in+full))
		modsFault(t, in+full, api.ErrLimit, len(in+full))
		modsFault(t, in+full+"#", api.ErrLimit, len(in+full)+1)
		modsFault(t, in+full+" $ }", api.ErrLimit, len(in+full)+4)
		modsFault(t, in+full[1:]+"#", api.ErrScan, len(in+full)-1)
		modsFault(t, in+full+"}", api.ErrParse, len(in+full)+1)
		modsFault(t, in+full[1:], api.ErrParse, len(in+full)-1)
		modsFault(t, in+full[1:]+".", api.ErrParse, len(in+full)-1)
	}
}

// P8.1, P8.2: texts that are too long, and those that just are not.
func TestLong(t *testing.T) {
	blanks := strings.Repeat(" ", api.MaxText)
	for _, read := range readings()[:2] {
		n, f := read(blanks[1:] + "a")
		want(t, "blanks and a", n, f, at("a"))
		wantRefused(t, read, blanks, api.ErrParse, api.MaxText)
	}
	wantMods(t, "module m."+blanks[len("module m.")+len("\nconfig #"):], mods(mod("m")))
	n, f := Mods("module m." + blanks[9:])
	want(t, "module m. and blanks", n, f, mods(mod("m")))
	for _, s := range []string{blanks + "a", "a" + blanks, "#" + blanks, "config" + blanks, "module m." + blanks, "module m. config" + blanks, ") " + blanks, "{" + strings.Repeat("a,", api.MaxNodes) + "a}", strings.Repeat("{", 1<<20), strings.Repeat("%", api.MaxText+1), strings.Repeat("a", 1<<20)} {
		modsFault(t, s, api.ErrLong, 0)
		wantRefused(t, Expr, s, api.ErrLong, 0)
		wantRefused(t, Pattern, s, api.ErrLong, 0)
	}
}
