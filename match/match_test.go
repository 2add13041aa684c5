package match

import (
	"reflect"
	"slices"
	"strconv"
	"strings"
	"testing"

	"pleach/api"
	"pleach/parse"
	"pleach/term"
)

// pat is the pattern of a text.
func pat(t *testing.T, s string) api.Node {
	t.Helper()
	n, f := parse.Pattern(s)
	if f.E != api.OK {
		t.Fatalf("%q: %v", s, f)
	}
	return n
}

// read is the term of a text.
func read(t *testing.T, s string) api.Term {
	t.Helper()
	x, used, e := term.Read(s)
	if e != api.OK || used != len(s) {
		t.Fatalf("%q: %v at %d", s, e, used)
	}
	return x
}

// rows are what a text of several says, with ; between.
func rows[T any](t *testing.T, s string, one func(*testing.T, string) T) []T {
	t.Helper()
	var l []T
	for p := range strings.SplitSeq(s, ";") {
		if p != "" {
			l = append(l, one(t, p))
		}
	}
	return l
}

// bind is that of a text such as X=1.
func bind(t *testing.T, s string) api.Bind {
	t.Helper()
	name, x, ok := strings.Cut(s, "=")
	if !ok {
		t.Fatalf("%q", s)
	}
	return api.Bind{S: name, T: read(t, x)}
}

// show tells names, and their terms.
func show(l []api.Bind) string {
	var s []string
	for _, b := range l {
		s = append(s, b.S+"="+term.Text(b.T))
	}
	return strings.Join(s, ";")
}

// given is what a call is given.
type given struct {
	p []api.Node
	t []api.Term
	l []api.Bind
}

// roomy is the same in new memory, with something behind each end.
func (g given) roomy() given {
	return given{room(g.p, roomyNode, api.Node{S: "behind"}), room(g.t, roomyTerm, api.Term{S: "behind"}), room(g.l, roomyBind, api.Bind{S: "behind"})}
}

// whole is the same with what stands behind the ends.
func (g given) whole() given {
	return given{wholly(g.p, wholeNode), wholly(g.t, wholeTerm), wholly(g.l, wholeBind)}
}

func room[T any](l []T, of func(T) T, behind T) []T {
	r := make([]T, 0, len(l)+2)
	for _, x := range l {
		r = append(r, of(x))
	}
	return append(r, behind, behind)[:len(l)]
}

func wholly[T any](l []T, of func(T) T) []T {
	r := slices.Clone(l[:cap(l)])
	for i := range r {
		r[i] = of(r[i])
	}
	return r
}

func roomyNode(n api.Node) api.Node {
	n.L = room(n.L, roomyNode, api.Node{S: "behind"})
	return n
}

func roomyTerm(x api.Term) api.Term {
	x.L = room(x.L, roomyTerm, api.Term{S: "behind"})
	return x
}

func roomyBind(b api.Bind) api.Bind { return api.Bind{S: b.S, T: roomyTerm(b.T)} }

func wholeNode(n api.Node) api.Node {
	n.L = wholly(n.L, wholeNode)
	return n
}

func wholeTerm(x api.Term) api.Term {
	x.L = wholly(x.L, wholeTerm)
	return x
}

func wholeBind(b api.Bind) api.Bind { return api.Bind{S: b.S, T: wholeTerm(b.T)} }

func sameTerm(a, b api.Term) bool {
	return a.K == b.K && a.N == b.N && a.S == b.S && a.T == b.T && slices.EqualFunc(a.L, b.L, sameTerm)
}

func sameBinds(a, b []api.Bind) bool {
	return slices.EqualFunc(a, b, func(a, b api.Bind) bool { return a.S == b.S && sameTerm(a.T, b.T) })
}

// calls are All, and Match, if there is one pattern and one term.
func (g given) calls() []func() ([]api.Bind, bool, api.Errno) {
	l := []func() ([]api.Bind, bool, api.Errno){func() ([]api.Bind, bool, api.Errno) { return All(g.p, g.t, g.l) }}
	if len(g.p) == 1 && len(g.t) == 1 {
		l = append(l, func() ([]api.Bind, bool, api.Errno) { return Match(g.p[0], g.t[0], g.l) })
	}
	return l
}

// want holds what the calls answer, again and again; that what is handed in stays as it was, whatever is done to the answers; and that no answer is changed by what is done to what was handed in.
func (g given) want(t *testing.T, out []api.Bind, ok bool, e api.Errno) {
	t.Helper()
	in := g.roomy()
	for _, g := range []given{g, in} {
		for _, call := range g.calls() {
			got, gotOK, gotE := call()
			if !sameBinds(got, out) || gotOK != ok || gotE != e {
				t.Errorf("%.300v, %.300v, %.300q: %.300q %v %v, not %.300q %v %v", g.p, g.t, show(g.l), show(got), gotOK, gotE, show(out), ok, e)
				return
			}
			_ = append(got, api.Bind{S: "more"})
			clear(got)
		}
	}
	if !reflect.DeepEqual(in.whole(), g.roomy().whole()) {
		t.Errorf("%.300v, %.300v, %.300q: changed", g.p, g.t, show(g.l))
	}
	for _, call := range in.calls() {
		got, _, _ := call()
		before := slices.Clone(got)
		clear(in.l[:cap(in.l)])
		if !sameBinds(got, before) {
			t.Errorf("%.300v, %.300v, %.300q: the names are l's memory", g.p, g.t, show(g.l))
		}
		in = g.roomy()
	}
}

// wantAll holds what patterns come to against terms under names: the names that are bound behind those, or no, or an error.
func wantAll(t *testing.T, p, x, l, want string) {
	t.Helper()
	g := given{rows(t, p, pat), rows(t, x, read), rows(t, l, bind)}
	switch want {
	case "no":
		g.want(t, g.l, false, api.OK)
	case "error":
		g.want(t, nil, false, api.ErrArg)
	default:
		g.want(t, append(slices.Clone(g.l), rows(t, want, bind)...), true, api.OK)
	}
}

// some are terms of all kinds.
var some = []string{
	"0", "1", "-1", "7", "576460752303423487", "-576460752303423488", "a", "b", "behind", "#Ref<0>", "#Ref<1>", "fun a:b/1", "fun a:b/0", "fun b:a/1", "<0>", "<1>",
	"{}", "{1}", "{a}", "{[]}", "{{}}", "{1,1}", "{1,a}", "{a,1}", "{{1},1}", "{1,1,1}", "[]", "[1]", "[a]", "[1,1]", "[1|a]", "[1|{}]", "[[]]", "[[1]|1]", "[1,a]",
}

// P10.1: each kind of pattern against each kind of term.
func TestKinds(t *testing.T) {
	for p, l := range map[string][]string{
		"0": {"0"}, "1": {"1"}, "-1": {"-1"}, "7": {"7"}, "576460752303423487": {"576460752303423487"}, "-576460752303423488": {"-576460752303423488"},
		"a": {"a"}, "b": {"b"}, "behind": {"behind"}, "[]": {"[]"}, "{}": {"{}"},
		"{_}": {"{1}", "{a}", "{[]}", "{{}}"}, "{1}": {"{1}"}, "{a}": {"{a}"}, "{[]}": {"{[]}"}, "{{}}": {"{{}}"}, "{{_}}": nil,
		"{_, _}": {"{1,1}", "{1,a}", "{a,1}", "{{1},1}"}, "{1, _}": {"{1,1}", "{1,a}"}, "{_, 1}": {"{1,1}", "{a,1}", "{{1},1}"}, "{1, 1}": {"{1,1}"}, "{{_}, 1}": {"{{1},1}"}, "{_, _, _}": {"{1,1,1}"}, "{_, _, _, _}": nil,
		"[_|_]": {"[1]", "[a]", "[1,1]", "[1|a]", "[1|{}]", "[[]]", "[[1]|1]", "[1,a]"}, "[1|_]": {"[1]", "[1,1]", "[1|a]", "[1|{}]", "[1,a]"}, "[_|[]]": {"[1]", "[a]", "[[]]"}, "[_|a]": {"[1|a]"}, "[_|{}]": {"[1|{}]"}, "[_|1]": {"[[1]|1]"},
		"[_|[_|_]]": {"[1,1]", "[1,a]"}, "[1|[a|[]]]": {"[1,a]"}, "[[]|_]": {"[[]]"}, "[[_|_]|_]": {"[[1]|1]"}, "[_|[_|[_|_]]]": nil,
	} {
		for _, x := range some {
			want := "no"
			if slices.Contains(l, x) {
				want = ""
			}
			wantAll(t, p, x, "", want)
			wantAll(t, p, x, "A=1;B={};A=b", want)
		}
	}
}

// P10.1: _ always, a name that is not bound always, too; one that is bound matches what is the same.
func TestVariables(t *testing.T) {
	for _, x := range some {
		wantAll(t, "_", x, "", "")
		wantAll(t, "_", x, "X=a", "")
		wantAll(t, "{_, _, [_|_]}", "{"+x+",1,["+x+"]}", "", "")
		for _, name := range []string{"X", "Y0_z", "_X", "__", "A" + strings.Repeat("9", 31)} {
			wantAll(t, name, x, "", name+"="+x)
			wantAll(t, name, x, "B="+x+";C=1", name+"="+x)
		}
		for _, y := range some {
			want := "no"
			if x == y {
				want = ""
			}
			wantAll(t, "X", x, "X="+y, want)
			wantAll(t, "X", x, "B=1;X="+y+";X=a;X=1;X="+x, want)
			wantAll(t, "{X, X}", "{"+x+","+x+"}", "X="+y, want)
			if x == y {
				want = "X=" + x
			}
			wantAll(t, "{X, X}", "{"+x+","+y+"}", "", want)
			wantAll(t, "{X, {1, X}}", "{"+x+",{1,"+y+"}}", "B=1", want)
			wantAll(t, "[{X}|{X}]", "[{"+x+"}|{"+y+"}]", "", want)
		}
	}
}

// P10.1: names are bound from left to right, and told in that order.
func TestOrder(t *testing.T) {
	for _, x := range [][4]string{
		{"{X, X}", "{1,1}", "", "X=1"}, {"{X, X}", "{1,2}", "", "no"}, {"[H|T]", "[1,2]", "", "H=1;T=[2]"}, {"[H|T]", "[1|2]", "", "H=1;T=2"},
		{"{Z, Y, X}", "{1,2,3}", "", "Z=1;Y=2;X=3"}, {"{Z, {Y, W}, X}", "{1,{2,3},4}", "", "Z=1;Y=2;W=3;X=4"}, {"[{C, B}|[A|_]]", "[{1,2},3,4]", "", "C=1;B=2;A=3"}, {"{B, A, B, C, A}", "{1,2,1,3,2}", "", "B=1;A=2;C=3"},
		{"{X, Y}", "{a,b}", "Y=b", "X=a"}, {"{X, Y}", "{a,b}", "Y=a", "no"}, {"{X, Y}", "{a,b}", "Z=1;Y=b;X=a", ""}, {"{X, {Y, Z}}", "{1,{2,3}}", "Y=2;Y=3;Z=3", "X=1"},
		{"{X, {Y, X}}", "{[1],{2,[1]}}", "", "X=[1];Y=2"}, {"{_, X, _, _}", "{1,2,3,4}", "", "X=2"}, {"{_X, _X}", "{1,1}", "", "_X=1"}, {"{_X, _X}", "{1,2}", "", "no"}, {"{X, x}", "{1,x}", "", "X=1"},
	} {
		wantAll(t, x[0], x[1], x[2], x[3])
	}
}

// P10.1: what did not match bound nothing, whatever parts ahead of it bound.
func TestUnbound(t *testing.T) {
	for _, l := range []string{"", "A=1", "A=1;B=2;A=3", "W={1,2}"} {
		for _, x := range [][2]string{
			{"{X, 1}", "{1,2}"}, {"{X, Y, Z, a}", "{1,2,3,b}"}, {"{X, {Y, {Z, []}}}", "{1,{2,{3,{}}}}"}, {"[X|[]]", "[1,2]"}, {"[X|[Y|Z]]", "[1]"}, {"{X, Y, X}", "{1,2,3}"}, {"{{X}, {Y, Z}}", "{{1},{2}}"}, {"{X, {}}", "{1,{1}}"}, {"[[X|Y]|1]", "[[1|2]|3]"},
		} {
			wantAll(t, x[0], x[1], l, "no")
		}
	}
	wantAll(t, "{X, Y, B}", "{1,2,3}", "B=2", "no")
}

// P10.1: tuples of unlike numbers of parts.
func TestTuples(t *testing.T) {
	for i := range 12 {
		for j := range 12 {
			p := "{" + strings.Join(slices.Repeat([]string{"X"}, i), ", ") + "}"
			x := "{" + strings.Join(slices.Repeat([]string{"{1}"}, j), ",") + "}"
			switch {
			case i != j:
				wantAll(t, p, x, "", "no")
			case i == 0:
				wantAll(t, p, x, "", "")
			default:
				wantAll(t, p, x, "", "X={1}")
			}
			wantAll(t, "{"+p+", "+p+"}", "{"+x+"}", "X={1}", "no")
		}
	}
}

// P10.1: names are told in new memory, also where nothing was bound.
func TestNewNames(t *testing.T) {
	l := rows(t, "A=1;B=2", bind)
	for _, p := range []string{"X", "_", "a", "b", "A"} {
		one, _, _ := Match(pat(t, p), read(t, "a"), l)
		other, _, _ := Match(pat(t, p), read(t, "a"), l)
		before := show(other)
		_ = append(one, api.Bind{S: "more"})
		one[0], one[1] = api.Bind{S: "Y"}, api.Bind{S: "Y"}
		if show(other) != before || show(l) != "A=1;B=2" {
			t.Error(p, show(other), show(l))
		}
	}
}

// many are so many names, each another one, with terms.
func many(n int) []api.Bind {
	var l []api.Bind
	for i := range n {
		l = append(l, api.Bind{S: "N" + strconv.Itoa(i), T: num(i)})
	}
	return l
}

func num(n int) api.Term { return api.Term{K: api.KInt, N: n} }

func variable(s string) api.Node { return api.Node{K: api.NdVar, S: s} }

// tupleOf is a tuple pattern of names.
func tupleOf(l []api.Bind) api.Node {
	p := api.Node{K: api.NdTuple}
	for _, b := range l {
		p.L = append(p.L, variable(b.S))
	}
	return p
}

// termOf is the tuple of their terms.
func termOf(l []api.Bind) api.Term {
	x := api.Term{K: api.KTuple}
	for _, b := range l {
		x.L = append(x.L, b.T)
	}
	return x
}

// P10.1, P10.2: 2 * MaxSlots names ahead, and one more; a match binds beyond that number.
func TestMany(t *testing.T) {
	for _, ahead := range []int{0, 1, 63, 64} {
		l := many(ahead)
		if !May(l) {
			t.Error(ahead)
		}
		for _, all := range []int{ahead, ahead + 1, 70, 255} {
			g := given{[]api.Node{tupleOf(many(all))}, []api.Term{termOf(many(all))}, l}
			g.want(t, many(all), true, api.OK)
			// The same part by part.
			g.p, g.t = g.p[0].L, g.t[0].L
			g.want(t, many(all), true, api.OK)
			if all > 0 {
				g.p, g.t = append(g.p, variable("N0")), append(g.t, num(-1))
				g.want(t, l, false, api.OK)
			}
		}
	}
	for _, ahead := range []int{65, 66, 255, 1 << 16} {
		if May(many(ahead)) {
			t.Error(ahead)
		}
		given{[]api.Node{variable("X")}, []api.Term{num(1)}, many(ahead)}.want(t, nil, false, api.ErrArg)
		given{nil, nil, many(ahead)}.want(t, nil, false, api.ErrArg)
	}
	same := slices.Repeat([]api.Bind{{S: "X", T: num(1)}}, 65)
	if !May(same[:64]) || May(same) {
		t.Error("a name that stands again counts again")
	}
}

// P10.2: many patterns, and names beyond all limits.
func TestAllMany(t *testing.T) {
	l := many(100000)
	g := given{tupleOf(l).L, termOf(l).L, nil}
	out, ok, e := All(g.p, g.t, nil)
	if !ok || e != api.OK || !sameBinds(out, l) {
		t.Error(len(out), ok, e)
	}
	g.t[len(g.t)-1] = api.Term{K: -1}
	if out, ok, e := All(g.p, g.t, nil); len(out) != 0 || ok || e != api.ErrArg {
		t.Error(len(out), ok, e)
	}
}

// P10.2
func TestAll(t *testing.T) {
	for _, x := range [][4]string{
		{"", "", "", ""}, {"", "", "A=1;A=2", ""}, {"X", "1", "", "X=1"}, {"X", "1", "X=2", "no"}, {"X", "{1,2}", "B=1", "X={1,2}"},
		{"X;{X, Y}", "1;{1,2}", "", "X=1;Y=2"}, {"X;{X, Y}", "1;{2,2}", "", "no"}, {"{X, Y};X", "{1,2};1", "", "X=1;Y=2"}, {"{X, Y};Y", "{1,2};1", "", "no"},
		{"X;X", "1;2", "", "no"}, {"X;X", "{a};{a}", "", "X={a}"}, {"X;X", "1;1", "X=1;X=2", ""}, {"X;X", "2;2", "X=1;X=2", "no"}, {"_;_;_", "1;2;3", "A=1", ""}, {"X;_;X", "1;2;1", "", "X=1"},
		{"C;B;A", "1;2;3", "", "C=1;B=2;A=3"}, {"C;B;A", "1;2;3", "B=2", "C=1;A=3"}, {"C;B;a", "1;2;3", "B=2", "no"}, {"a;C;B", "b;2;3", "B=2", "no"}, {"error;{badarg, T}", "error;{badarg,[1]}", "", "T=[1]"},
		{"X;Y;Z;X;Y;Z;{X, Y, Z}", "1;2;3;1;2;3;{1,2,3}", "W=a", "X=1;Y=2;Z=3"},
		{"", "1", "", "error"}, {"X", "", "", "error"}, {"X;Y", "1", "", "error"}, {"X", "1;2", "", "error"}, {"X;X;X", "1;2", "X=3", "error"}, {"_", "", "A=1", "error"}, {"", "1;2;3", "A=1", "error"},
	} {
		wantAll(t, x[0], x[1], x[2], x[3])
	}
}
