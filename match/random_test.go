package match

import (
	"math/rand"
	"slices"
	"testing"

	"pleach/api"
	"pleach/term"
)

// spot is a part of a pattern, and what stands in its place in the term.
type spot struct {
	p api.Node
	t api.Term
}

// spots are those of a pattern and a term, from left to right, as far as they go together.
func spots(p api.Node, t api.Term) []spot {
	l := []spot{{p, t}}
	for i := range min(len(p.L), len(t.L)) {
		l = append(l, spots(p.L[i], t.L[i])...)
	}
	return l
}

// shaped tells whether a part's own node is such.
func (s spot) shaped() bool {
	if s.p.K == api.NdVar {
		return true
	}
	kinds := map[int8]int8{api.NdInt: api.KInt, api.NdAtom: api.KAtom, api.NdNil: api.KNil, api.NdCons: api.KCons, api.NdTuple: api.KTuple}
	return s.t.K == kinds[s.p.K] && s.t.N == s.p.N && s.t.S == s.p.S && len(s.t.L) == len(s.p.L)
}

// reading is what the patterns come to: all parts are such, and all places of one name hold one text.
func reading(p []api.Node, t []api.Term, l []api.Bind) ([]api.Bind, bool) {
	out := slices.Clone(l)
	texts := map[string]string{}
	for _, b := range slices.Backward(l) {
		texts[b.S] = term.Text(b.T)
	}
	for i := range p {
		for _, s := range spots(p[i], t[i]) {
			if !s.shaped() {
				return l, false
			}
			if s.p.K != api.NdVar || s.p.S == "_" {
				continue
			}
			text, ok := texts[s.p.S]
			if ok && text != term.Text(s.t) {
				return l, false
			}
			if !ok {
				texts[s.p.S] = term.Text(s.t)
				out = append(out, api.Bind{S: s.p.S, T: s.t})
			}
		}
	}
	return out, true
}

// put is the term that a pattern is with its names' terms, however great.
func put(p api.Node, l []api.Bind) (api.Term, bool) {
	if p.K == api.NdVar {
		i := slices.IndexFunc(l, func(b api.Bind) bool { return b.S == p.S })
		if i < 0 {
			return api.Term{}, false
		}
		return l[i].T, true
	}
	t := api.Term{K: map[int8]int8{api.NdInt: api.KInt, api.NdAtom: api.KAtom, api.NdNil: api.KNil, api.NdCons: api.KCons, api.NdTuple: api.KTuple}[p.K], N: p.N, S: p.S}
	all := true
	for _, n := range p.L {
		x, ok := put(n, l)
		all = all && ok
		t.L = append(t.L, x)
	}
	return t, all
}

// count is how many nodes a term has.
func count(t api.Term) int {
	n := 1
	for _, x := range t.L {
		n += count(x)
	}
	return n
}

// maker makes random terms, and patterns that match them now and then.
type maker struct{ *rand.Rand }

func (m maker) pick(l ...string) string { return l[m.Intn(len(l))] }

func (m maker) term(deep int) api.Term {
	kind := m.Intn(6)
	if deep > 0 && m.Intn(4) > 0 {
		kind = 6 + m.Intn(3)
	}
	switch kind {
	case 0, 1:
		return num(m.Intn(3) - 1)
	case 2:
		return api.Term{K: api.KAtom, S: m.pick("a", "b")}
	case 3:
		return api.Term{K: []int8{api.KRef, api.KPid}[m.Intn(2)], N: m.Intn(2)}
	case 4:
		return api.Term{K: api.KFun, S: "a", T: m.pick("a", "b"), N: m.Intn(2)}
	case 5:
		return api.Term{K: api.KNil}
	case 6:
		return api.Term{K: api.KCons, L: []api.Term{m.term(deep - 1), m.term(deep - 1)}}
	}
	t := api.Term{K: api.KTuple}
	for range m.Intn(4) {
		t.L = append(t.L, m.term(deep-1))
	}
	return t
}

var variables = []string{"_", "X", "Y", "Z", "V", "W"}

// pattern is one of the term, with names for some of its parts, and now and then another one.
func (m maker) pattern(t api.Term, names []string) api.Node {
	if m.Intn(8) == 0 {
		t = m.term(2)
	}
	kinds := map[int8]int8{api.KInt: api.NdInt, api.KAtom: api.NdAtom, api.KNil: api.NdNil, api.KCons: api.NdCons, api.KTuple: api.NdTuple}
	k, ok := kinds[t.K]
	if !ok || len(t.L) == 0 && m.Intn(2) == 0 || m.Intn(6) == 0 {
		return variable(m.pick(names...))
	}
	p := api.Node{K: k, N: t.N, S: t.S}
	for _, x := range t.L {
		p.L = append(p.L, m.pattern(x, names))
	}
	return p
}

// binds are some, of few names; the terms that stand in t now and then.
func (m maker) binds(p api.Node, t api.Term) []api.Bind {
	all := spots(p, t)
	var l []api.Bind
	for range m.Intn(4) {
		b := api.Bind{S: m.pick(variables[1:]...), T: m.term(1)}
		if s := all[m.Intn(len(all))]; m.Intn(4) > 0 && s.p.K == api.NdVar && s.p.S != "_" {
			b = api.Bind{S: s.p.S, T: s.t}
		}
		l = append(l, b)
	}
	return l
}

// P10.1, P10.2: random patterns against a plain reading of the chapter.
func TestRandom(t *testing.T) {
	m := maker{rand.New(rand.NewSource(1))}
	matched, bound := 0, 0
	const times = 6000
	for range times {
		var g given
		names := variables[:2+m.Intn(len(variables)-1)]
		for range 1 + m.Intn(2)*m.Intn(3) {
			x := m.term(m.Intn(4))
			g.p, g.t = append(g.p, m.pattern(x, names)), append(g.t, x)
		}
		g.l = m.binds(g.p[0], g.t[0])
		out, ok := reading(g.p, g.t, g.l)
		g.want(t, out, ok, api.OK)
		if ok {
			matched++
			bound += len(out) - len(g.l)
			g.again(t, out)
		}
	}
	if matched < times/4 || matched > times*3/4 || bound < times/5 {
		t.Error("too few, or too many:", matched, bound)
	}
}

// again holds P10.4: under the names that came of it a pattern that matched matches again, and binds nothing more; filled under them it is the term.
func (g given) again(t *testing.T, out []api.Bind) {
	t.Helper()
	given{g.p, g.t, out}.want(t, out, true, api.OK)
	for i, p := range g.p {
		given{g.p[i : i+1], g.t[i : i+1], out}.want(t, out, true, api.OK)
		if x, e := Fill(p, out); e == api.OK && !sameTerm(x, g.t[i]) {
			t.Error(p, show(out), term.Text(x), e)
		}
	}
}

// P10.3, P10.4: random patterns, filled; what comes of it matches, and binds nothing.
func TestRandomFill(t *testing.T) {
	m := maker{rand.New(rand.NewSource(2))}
	seen := map[api.Errno]int{}
	for range 1000 {
		names := variables[1:]
		if m.Intn(5) == 0 {
			names = variables
		}
		p := m.pattern(m.term(m.Intn(6)), names)
		var l []api.Bind
		for range m.Intn(20) {
			b := api.Bind{S: m.pick(variables[1:]...), T: m.term(m.Intn(4))}
			if m.Intn(2) == 0 {
				b.T = wide(100 + m.Intn(api.MaxTerm-100))
			}
			l = append(l, b)
		}
		want, ok := put(p, l)
		e := api.OK
		switch {
		case !ok:
			want, e = api.Term{}, api.ErrArg
		case count(want) > api.MaxTerm:
			want, e = api.Term{}, api.ErrLimit
		}
		wantFill(t, p, l, want, e)
		seen[e]++
		if e == api.OK {
			given{[]api.Node{p}, []api.Term{want}, l}.want(t, l, true, api.OK)
		}
	}
	for _, e := range []api.Errno{api.OK, api.ErrArg, api.ErrLimit} {
		if seen[e] < 50 {
			t.Error("too few:", e, seen)
		}
	}
}

// P10.4: what Fill tells of a pattern matches it, and binds nothing.
func TestFilledMatches(t *testing.T) {
	for _, x := range [][2]string{
		{"1", ""}, {"a", "X=1"}, {"[]", ""}, {"{}", ""}, {"X", "X={a}"}, {"X", "X=1;X=2;Y=3"}, {"{X, X, Y}", "X=1;Y=[2];X=3"}, {"{X, [Y|X], -3}", "Y=7;X={a};X=b"}, {"[H|[G|T]]", "T=[1];G=2;H=3"}, {"{Pid, Ref, Fun}", "Pid=<1>;Ref=#Ref<2>;Fun=fun a:b/1"},
	} {
		p, l := pat(t, x[0]), rows(t, x[1], bind)
		f, e := Fill(p, l)
		if e != api.OK {
			t.Error(x, e)
		}
		given{[]api.Node{p}, []api.Term{f}, l}.want(t, l, true, api.OK)
	}
	l := []api.Bind{{S: "X", T: wide(255)}}
	f, _ := Fill(pat(t, "{X}"), l)
	given{rows(t, "{X}", pat), []api.Term{f}, l}.want(t, l, true, api.OK)
}

// P10.4: what matched matches again under the names that came of it, and binds nothing more.
func TestMatchesAgain(t *testing.T) {
	for _, x := range [][3]string{
		{"X", "{a,1}", ""}, {"_", "a", "A=1"}, {"{X, X}", "{1,1}", ""}, {"[H|T]", "[1,2]", "T=[2];T=1"}, {"{X, {Y, X}}", "{[1],{2,[1]}}", "Z=1"}, {"{_, X, _}", "{1,2,3}", ""}, {"{A, B};{B, A}", "{1,2};{2,1}", ""}, {"X;Y;X", "1;2;1", "Y=2"},
	} {
		g := given{rows(t, x[0], pat), rows(t, x[1], read), rows(t, x[2], bind)}
		out, ok, e := All(g.p, g.t, g.l)
		if !ok || e != api.OK {
			t.Error(x, ok, e)
		}
		g.again(t, out)
	}
	// As many names as may be.
	g := given{[]api.Node{tupleOf(many(64))}, []api.Term{termOf(many(64))}, many(20)}
	g.again(t, many(64))
	// More came of it than may be handed in again.
	g = given{[]api.Node{tupleOf(many(65))}, []api.Term{termOf(many(65))}, nil}
	g.want(t, many(65), true, api.OK)
	g.l = many(65)
	g.want(t, nil, false, api.ErrArg)
}
