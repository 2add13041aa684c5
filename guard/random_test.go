package guard

import (
	"math/rand"
	"slices"
	"testing"

	"pleach/api"
	"pleach/term"
)

// reading is the value of a guard expression, by a plain reading of the chapter.
func reading(n api.Node, l []api.Bind) (api.Term, bool) {
	if n.K == api.NdVar {
		i := slices.IndexFunc(l, func(b api.Bind) bool { return b.S == n.S })
		if i < 0 || n.S == "_" {
			return api.Term{}, false
		}
		return l[i].T, true
	}
	var parts []api.Term
	nodes := 1
	for _, p := range n.L {
		x, ok := reading(p, l)
		if !ok {
			return api.Term{}, false
		}
		parts = append(parts, x)
		nodes += term.Size(x)
	}
	if n.K != api.NdOp {
		k := map[int8]int8{api.NdInt: api.KInt, api.NdAtom: api.KAtom, api.NdNil: api.KNil, api.NdCons: api.KCons, api.NdTuple: api.KTuple}[n.K]
		return api.Term{K: k, N: n.N, S: n.S, L: parts}, nodes <= api.MaxTerm
	}
	sum, ok := exact(n.S, parts[0].N, parts[1].N)
	return num(sum), ok && parts[0].K == api.KInt && parts[1].K == api.KInt
}

// held tells whether a test holds, by a plain reading.
func held(n api.Node, l []api.Bind) bool {
	var x []api.Term
	for _, p := range n.L {
		t, ok := reading(p, l)
		if !ok {
			return false
		}
		x = append(x, t)
	}
	if n.K == api.NdOp {
		return ordered(n.S, term.Compare(x[0], x[1]), 0)
	}
	return slices.Contains(map[string][]int8{"is_atom": {api.KAtom}, "is_integer": {api.KInt}, "is_pid": {api.KPid}, "is_reference": {api.KRef}, "is_tuple": {api.KTuple}, "is_list": {api.KNil, api.KCons}, "is_function": {api.KFun}}[n.S], x[0].K)
}

// maker makes random terms, expressions, tests and names.
type maker struct{ *rand.Rand }

// some is a term that may be.
func (m maker) some() api.Term {
	for {
		if x := m.term(2); term.Check(x) == api.OK {
			return x
		}
	}
}

func pick[T any](m maker, l []T) T { return l[m.Intn(len(l))] }

func (m maker) integer() int {
	if m.Intn(6) == 0 {
		return pick(m, edges)
	}
	return m.Intn(4) - 1
}

func (m maker) term(deep int) api.Term {
	kind := int8(m.Intn(8))
	if deep == 0 {
		kind = int8(m.Intn(5))
	}
	x := api.Term{K: kind}
	switch kind {
	case api.KInt:
		x.N = m.integer()
	case api.KAtom:
		x.S = pick(m, []string{"a", "b"})
	case api.KRef, api.KPid:
		x.N = m.Intn(2)
	case api.KFun:
		x.S, x.T, x.N = "a", pick(m, []string{"a", "b"}), m.Intn(2)
	case api.KTuple:
		if m.Intn(6) == 0 {
			return wide(80 + m.Intn(api.MaxTerm-80))
		}
		for range m.Intn(3) {
			x.L = append(x.L, m.term(deep-1))
		}
	case api.KCons:
		x.L = []api.Term{m.term(deep - 1), m.term(deep - 1)}
	}
	return x
}

var variables = []string{"X", "Y", "Z", "V", "W", "I", "J"}

func (m maker) binds() []api.Bind {
	var l []api.Bind
	for range m.Intn(14) {
		l = append(l, api.Bind{S: pick(m, append(variables, "_", "", "x")), T: m.some()})
	}
	// Some names are mostly integers.
	return append(l, api.Bind{S: "I", T: num(m.integer())}, api.Bind{S: "J", T: num(m.integer())})
}

func (m maker) expr(deep int) api.Node {
	kind := m.Intn(12)
	if deep == 0 {
		kind = m.Intn(6)
	}
	switch kind {
	case 0:
		return number(m.integer())
	case 1:
		return api.Node{K: api.NdAtom, S: pick(m, []string{"a", "b"})}
	case 2:
		return api.Node{K: api.NdNil}
	case 3, 4, 5:
		if m.Intn(20) == 0 {
			return variable("_")
		}
		return variable(pick(m, variables))
	case 6, 7:
		n := tuple()
		for range m.Intn(4) {
			n.L = append(n.L, m.expr(deep-1))
		}
		return n
	case 8:
		return api.Node{K: api.NdCons, L: []api.Node{m.expr(deep - 1), m.expr(deep - 1)}}
	}
	return op(pick(m, []string{"+", "-", "*"}), m.sum(deep-1), m.sum(deep-1))
}

// sum is mostly an expression of an integer.
func (m maker) sum(deep int) api.Node {
	switch k := m.Intn(10); {
	case k == 0:
		return m.expr(deep)
	case deep > 0 && k < 5:
		return op(pick(m, []string{"+", "-", "*"}), m.sum(deep-1), m.sum(deep-1))
	case k < 7:
		return number(m.integer())
	}
	return variable(pick(m, []string{"I", "J"}))
}

func (m maker) test(deep int) api.Node {
	if m.Intn(2) == 0 {
		return is(pick(m, kindWords), m.expr(deep))
	}
	n := op(pick(m, comparisons), m.expr(deep), m.expr(deep))
	if m.Intn(4) == 0 {
		n.L[1] = n.L[0]
	}
	return n
}

// P11.1, P11.2: random expressions and tests against a plain reading.
func TestRandom(t *testing.T) {
	m := maker{rand.New(rand.NewSource(11))}
	values, holds := map[bool]int{}, map[bool]int{}
	for range 3000 {
		l := m.binds()
		n, test := m.expr(m.Intn(5)), m.test(m.Intn(4))
		want, ok := reading(n, l)
		e := api.OK
		if !ok {
			want, e = api.Term{}, api.ErrGuard
		}
		wantValue(t, n, l, want, e)
		wantTest(t, test, l, held(test, l))
		values[ok]++
		holds[held(test, l)]++
	}
	if min(values[true], values[false], holds[true], holds[false]) < 500 {
		t.Error("too few:", values, holds)
	}
}

// P11.2, P11.3: random guards hold just if their tests do, in whatever order, whatever other names are bound.
func TestRandomGuards(t *testing.T) {
	m := maker{rand.New(rand.NewSource(12))}
	holds := map[bool]int{}
	for range 2000 {
		l := m.binds()
		var g api.Node
		want := true
		for range m.Intn(5) {
			test := m.test(m.Intn(3))
			if !held(test, l) && m.Intn(4) > 0 {
				continue
			}
			g.L = append(g.L, test)
			want = want && held(test, l)
		}
		holds[want]++
		g.K = api.NdGuard
		for range 3 {
			if Holds(g, l) != want {
				t.Errorf("%s, %s: %v", brief(g), brief(show(l)), !want)
			}
			m.Shuffle(len(g.L), func(i, j int) { g.L[i], g.L[j] = g.L[j], g.L[i] })
			l = slices.Insert(l, m.Intn(len(l)+1), api.Bind{S: pick(m, []string{"Q", "_Q", "", "_"}), T: m.some()})
		}
	}
	if min(holds[true], holds[false]) < 300 {
		t.Error("too few:", holds)
	}
}
