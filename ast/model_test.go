package ast

import (
	"math/rand"
	"slices"
	"strings"
	"testing"

	"pleach/api"
	"pleach/scan"
)

const (
	modelWords = "after case catch config div end fun module of receive rem try when"
	modelTests = "is_atom is_integer is_pid is_reference is_tuple is_list is_function"
	modelArith = "+ - * div rem"
	modelComps = "=:= =/= < =< > >="
)

func oneOf(s, list string) bool { return slices.Contains(strings.Fields(list), s) }

func modelName(s string, first string) bool {
	if s == "" || len(s) > 32 || !strings.Contains(first, s[:1]) {
		return false
	}
	return strings.Trim(s, "abcdefghijklmnopqrstuvwxyzABCDEFGHIJKLMNOPQRSTUVWXYZ0123456789_") == ""
}

func modelAtom(s string) bool {
	return modelName(s, "abcdefghijklmnopqrstuvwxyz") && !oneOf(s, modelWords)
}

// modelCount is how many nodes a tree has, and how deep it is, without bounds.
func modelCount(n api.Node) (int, int) {
	nodes, deep := 1, 0
	for _, p := range n.L {
		a, b := modelCount(p)
		nodes, deep = nodes+a, max(deep, b)
	}
	return nodes, deep + 1
}

// modelMay is a plain reading of the chapter: may n stand there, sizes left aside?
func modelMay(n api.Node, role string) bool {
	all := func(l []api.Node, role string) bool {
		for _, p := range l {
			if !modelMay(p, role) {
				return false
			}
		}
		return true
	}
	clauses := func(l []api.Node, least, many int) bool {
		for _, c := range l {
			if c.K != api.NdClause || c.N != many {
				return false
			}
		}
		return len(l) >= least && all(l, "clause")
	}
	only := func(l ...string) bool {
		for _, f := range []string{"N", "S", "T", "L"} {
			empty := map[string]bool{"N": n.N == 0, "S": n.S == "", "T": n.T == "", "L": len(n.L) == 0}[f]
			if !empty && !slices.Contains(l, f) {
				return false
			}
		}
		return true
	}
	value := role == "pattern" || role == "guarded" || role == "expr"
	expr := role == "expr"
	many := len(n.L)
	switch n.K {
	case api.NdMods:
		return role == "mods" && only("L") && all(n.L, "mod")
	case api.NdMod:
		return role == "mod" && only("S", "L") && modelAtom(n.S) && all(n.L, "fun")
	case api.NdFun:
		return role == "fun" && only("S", "N", "L") && modelAtom(n.S) && n.N >= 0 && n.N <= 8 && clauses(n.L, 1, n.N)
	case api.NdClause:
		if role != "clause" || !only("N", "L") || n.N < 0 || n.N >= many-1 {
			return false
		}
		return all(n.L[:n.N], "pattern") && modelMay(n.L[n.N], "guard") && all(n.L[n.N+1:], "expr")
	case api.NdGuard:
		return role == "guard" && only("L") && all(n.L, "test")
	case api.NdVar:
		return value && only("S") && modelName(n.S, "ABCDEFGHIJKLMNOPQRSTUVWXYZ_")
	case api.NdInt:
		return value && only("N") && n.N >= -1<<59 && n.N < 1<<59
	case api.NdAtom:
		return value && only("S") && modelAtom(n.S)
	case api.NdNil:
		return value && only()
	case api.NdCons:
		return value && only("L") && many == 2 && all(n.L, role)
	case api.NdTuple:
		return value && only("L") && all(n.L, role)
	case api.NdOp:
		if !only("S", "L") || many != 2 {
			return false
		}
		switch role {
		case "expr":
			return (oneOf(n.S, modelArith) || oneOf(n.S, modelComps)) && all(n.L, "expr")
		case "guarded":
			return oneOf(n.S, "+ - *") && all(n.L, "guarded")
		}
		return role == "test" && oneOf(n.S, modelComps) && all(n.L, "guarded")
	case api.NdTest:
		return role == "test" && only("S", "L") && oneOf(n.S, modelTests) && many == 1 && all(n.L, "guarded")
	case api.NdMatch:
		return expr && only("L") && many == 2 && modelMay(n.L[0], "pattern") && modelMay(n.L[1], "expr")
	case api.NdCall:
		return expr && only("S", "L") && modelAtom(n.S) && many <= 8 && all(n.L, "expr")
	case api.NdRemote:
		return expr && only("S", "T", "L") && modelAtom(n.S) && modelAtom(n.T) && many <= 8 && all(n.L, "expr")
	case api.NdApply:
		return expr && only("L") && many >= 1 && many <= 9 && n.L[0].K == api.NdVar && all(n.L, "expr")
	case api.NdRef:
		return expr && only("S", "T", "N") && modelAtom(n.S) && modelAtom(n.T) && n.N >= 0 && n.N <= 8
	case api.NdCase:
		return expr && only("L") && many >= 1 && modelMay(n.L[0], "expr") && clauses(n.L[1:], 1, 1)
	case api.NdTry:
		if !expr || !only("L") || many < 1 || !modelMay(n.L[0], "expr") || !clauses(n.L[1:], 1, 2) {
			return false
		}
		for _, c := range n.L[1:] {
			if p := c.L[0]; p.K != api.NdVar && (p.K != api.NdAtom || !oneOf(p.S, "error exit throw")) {
				return false
			}
		}
		return true
	case api.NdRecv:
		if !expr || !only("N", "L") || n.N < 0 || n.N > 1 || many < 1 {
			return false
		}
		if n.N == 0 {
			return clauses(n.L, 1, 1)
		}
		return clauses(n.L[:many-1], 0, 1) && modelMay(n.L[many-1], "after")
	case api.NdAfter:
		return role == "after" && only("L") && many >= 2 && all(n.L, "expr")
	}
	return false
}

func modelVars(n api.Node) []string {
	var l []string
	if n.K == api.NdVar && n.S != "_" {
		l = append(l, n.S)
	}
	for _, p := range n.L {
		for _, s := range modelVars(p) {
			if !slices.Contains(l, s) {
				l = append(l, s)
			}
		}
	}
	return l
}

// reader reads a text by the grammar of chapter 8; where none fits, it panics.
type reader struct {
	s  string
	at int
}

func (r *reader) peek() api.Token {
	t, _, f := scan.Next(r.s, r.at)
	if f.E != api.OK {
		return api.Token{K: -1}
	}
	return t
}

func (r *reader) next() api.Token {
	t, end, f := scan.Next(r.s, r.at)
	if f.E != api.OK {
		panic(f)
	}
	r.at = end
	return t
}

func (r *reader) is(s string) bool { t := r.peek(); return t.K == api.TkWord && t.S == s }

func (r *reader) took(s string) bool {
	if r.is(s) {
		r.next()
		return true
	}
	return false
}

func (r *reader) want(s string) {
	if !r.took(s) {
		panic("no " + s + " at " + r.s[r.at:])
	}
}

func (r *reader) kind(k int8) string {
	t := r.next()
	if t.K != k {
		panic("another token: " + t.S)
	}
	return t.S
}

func (r *reader) list(end string, part func() api.Node) []api.Node {
	var l []api.Node
	if !r.took(end) {
		for l = append(l, part()); r.took(","); l = append(l, part()) {
		}
		r.want(end)
	}
	return l
}

func (r *reader) mods() api.Node {
	n := api.Node{K: api.NdMods}
	for r.took("module") {
		m := api.Node{K: api.NdMod, S: r.kind(api.TkAtom)}
		r.kind(api.TkEnd)
		for r.peek().K == api.TkAtom {
			m.L = append(m.L, r.function())
		}
		n.L = append(n.L, m)
	}
	if r.peek().K != -1 || r.at != len(strings.TrimRight(r.s, "\n")) {
		panic("more behind the modules")
	}
	return n
}

func (r *reader) function() api.Node {
	f := api.Node{K: api.NdFun}
	for {
		f.S = r.kind(api.TkAtom)
		r.want("(")
		l := r.list(")", r.pattern)
		f.N = len(l)
		f.L = append(f.L, r.clause(l))
		if !r.took(";") {
			r.kind(api.TkEnd)
			return f
		}
	}
}

func (r *reader) clause(patterns []api.Node) api.Node {
	g := api.Node{K: api.NdGuard}
	if r.took("when") {
		for g.L = append(g.L, r.test()); r.took(","); g.L = append(g.L, r.test()) {
		}
	}
	r.want("->")
	return api.Node{K: api.NdClause, N: len(patterns), L: append(append(slices.Clone(patterns), g), r.body()...)}
}

func (r *reader) body() []api.Node {
	l := []api.Node{r.expr()}
	for r.took(",") {
		l = append(l, r.expr())
	}
	return l
}

// value reads what patterns, guard expressions and expressions have in common.
func (r *reader) value(part func() api.Node) (api.Node, bool) {
	t := r.peek()
	switch {
	case t.K == api.TkVar:
		return api.Node{K: api.NdVar, S: r.next().S}, true
	case t.K == api.TkAtom:
		return api.Node{K: api.NdAtom, S: r.next().S}, true
	case t.K == api.TkInt:
		return api.Node{K: api.NdInt, N: r.next().N}, true
	case r.took("-"):
		if t := r.next(); t.K == api.TkInt {
			return api.Node{K: api.NdInt, N: -t.N}, true
		}
		panic("no integer behind -")
	case r.took("["):
		if r.took("]") {
			return api.Node{K: api.NdNil}, true
		}
		h := part()
		r.want("|")
		n := api.Node{K: api.NdCons, L: []api.Node{h, part()}}
		r.want("]")
		return n, true
	case r.took("{"):
		return api.Node{K: api.NdTuple, L: r.list("}", part)}, true
	}
	return api.Node{}, false
}

func (r *reader) pattern() api.Node {
	n, ok := r.value(r.pattern)
	if !ok {
		panic("no pattern")
	}
	return n
}

func (r *reader) guarded() api.Node {
	n, ok := r.value(r.guarded)
	if !ok {
		n = r.operation("+ - *", r.guarded)
	}
	return n
}

func (r *reader) operation(ops string, part func() api.Node) api.Node {
	r.want("(")
	a := part()
	op := r.kind(api.TkWord)
	b := part()
	r.want(")")
	if op == "=" && strings.Contains(ops, "div") {
		return api.Node{K: api.NdMatch, L: []api.Node{a, b}}
	}
	if !oneOf(op, ops) {
		panic("no such operation: " + op)
	}
	return api.Node{K: api.NdOp, S: op, L: []api.Node{a, b}}
}

func (r *reader) test() api.Node {
	if r.is("(") {
		return r.operation(modelComps, r.guarded)
	}
	s := r.kind(api.TkAtom)
	r.want("(")
	return api.Node{K: api.NdTest, S: s, L: r.list(")", r.guarded)}
}

func (r *reader) expr() api.Node {
	if n, ok := r.value(r.expr); ok {
		return r.behind(n)
	}
	n := api.Node{}
	switch {
	case r.is("("):
		return r.operation(modelArith+" "+modelComps, r.expr)
	case r.took("fun"):
		n = api.Node{K: api.NdRef, S: r.kind(api.TkAtom)}
		r.want(":")
		n.T = r.kind(api.TkAtom)
		r.want("/")
		n.N = r.next().N
		return n
	case r.took("case"):
		n = api.Node{K: api.NdCase, L: []api.Node{r.expr()}}
		r.want("of")
		n.L = append(n.L, r.clauses("")...)
	case r.took("try"):
		n = api.Node{K: api.NdTry, L: []api.Node{r.expr()}}
		r.want("catch")
		n.L = append(n.L, r.clauses(":")...)
	default:
		r.want("receive")
		n.K = api.NdRecv
		if !r.is("after") && !r.is("end") {
			n.L = r.clauses("")
		}
		if r.took("after") {
			e := r.expr()
			r.want("->")
			n.N = 1
			n.L = append(n.L, api.Node{K: api.NdAfter, L: append([]api.Node{e}, r.body()...)})
		}
	}
	r.want("end")
	return n
}

// behind reads on behind a name.
func (r *reader) behind(n api.Node) api.Node {
	switch {
	case n.K == api.NdVar && r.took("("):
		return api.Node{K: api.NdApply, L: append([]api.Node{n}, r.list(")", r.expr)...)}
	case n.K == api.NdAtom && r.took("("):
		return api.Node{K: api.NdCall, S: n.S, L: r.list(")", r.expr)}
	case n.K == api.NdAtom && r.took(":"):
		t := r.kind(api.TkAtom)
		r.want("(")
		return api.Node{K: api.NdRemote, S: n.S, T: t, L: r.list(")", r.expr)}
	}
	return n
}

func (r *reader) clauses(between string) []api.Node {
	var l []api.Node
	for {
		p := []api.Node{r.pattern()}
		if between != "" {
			r.want(between)
			p = append(p, r.pattern())
		}
		l = append(l, r.clause(p))
		if !r.took(";") {
			return l
		}
	}
}

// wantRead holds that the text of a tree that may be reads as the tree, and that it is laid out as the chapter says: no blank but those single ones that it names.
func wantRead(t *testing.T, n api.Node) {
	t.Helper()
	s := Text(n)
	defer func() {
		if x := recover(); x != nil {
			t.Errorf("%.300q: %v", s, x)
		}
	}()
	r := &reader{s: s}
	if got := r.mods(); !Same(got, n) {
		t.Errorf("%.300q reads as %v, not %v", s, got, n)
	}
	if s != "" && !strings.HasSuffix(s, ".\n") || strings.Contains(s, "  ") || strings.Contains(s, " \n") || strings.Contains(s, "\n ") || strings.Contains(s, "\n\n") {
		t.Errorf("%.300q: blanks", s)
	}
	if strings.Count(s, ",") != strings.Count(s, ", ") || strings.Count(s, ";") != strings.Count(s, "; ")+strings.Count(s, ";\n") {
		t.Errorf("%.300q: commas", s)
	}
}

// maker makes random trees that may be.
type maker struct{ *rand.Rand }

func pick[T any](m maker, l ...T) T { return l[m.Intn(len(l))] }

func (m maker) atom() string {
	return pick(m, "a", "b", "f", "go_1", "aZ9", "error", "exit", "throw", "is_atom", "afters", strings.Repeat("q", 32))
}

func (m maker) name() string {
	return pick(m, "_", "X", "Y", "Zx_1", "_a", "After", strings.Repeat("Q", 32))
}

func (m maker) many(most int, part func() api.Node) []api.Node {
	var l []api.Node
	for range m.Intn(most + 1) {
		l = append(l, part())
	}
	return l
}

func (m maker) mods() api.Node {
	return api.Node{K: api.NdMods, L: m.many(pick(m, 1, 3, 3), func() api.Node {
		return api.Node{K: api.NdMod, S: m.atom(), L: m.many(3, func() api.Node {
			f := api.Node{K: api.NdFun, S: m.atom(), N: pick(m, 0, 1, 1, 2, 3, 8)}
			for range 1 + m.Intn(3) {
				f.L = append(f.L, m.clause(f.N, 4))
			}
			return f
		})}
	})}
}

func (m maker) clause(many, deep int) api.Node {
	c := api.Node{K: api.NdClause, N: many}
	for range many {
		c.L = append(c.L, m.value(deep-1, "pattern"))
	}
	c.L = append(c.L, api.Node{K: api.NdGuard, L: m.many(pick(m, 0, 3), func() api.Node { return m.test(deep - 1) })})
	return with(c, m.exprs(deep-1)...)
}

func with(n api.Node, l ...api.Node) api.Node {
	n.L = append(n.L, l...)
	return n
}

func (m maker) exprs(deep int) []api.Node {
	return append(m.many(pick(m, 0, 0, 2), func() api.Node { return m.expr(deep) }), m.expr(deep))
}

func (m maker) test(deep int) api.Node {
	if m.Intn(2) == 0 {
		return api.Node{K: api.NdTest, S: pick(m, strings.Fields(modelTests)...), L: []api.Node{m.value(deep, "guarded")}}
	}
	return api.Node{K: api.NdOp, S: pick(m, strings.Fields(modelComps)...), L: []api.Node{m.value(deep, "guarded"), m.value(deep, "guarded")}}
}

func (m maker) leaf() api.Node {
	switch m.Intn(5) {
	case 0:
		return api.Node{K: api.NdInt, N: pick(m, 0, 1, -1, 12, -345, api.MaxInt, -api.MaxInt-1)}
	case 1:
		return api.Node{K: api.NdAtom, S: m.atom()}
	case 2:
		return api.Node{K: api.NdNil}
	}
	return api.Node{K: api.NdVar, S: m.name()}
}

func (m maker) value(deep int, role string) api.Node {
	part := func() api.Node { return m.value(deep-1, role) }
	if role == "expr" {
		part = func() api.Node { return m.expr(deep - 1) }
	}
	if deep <= 0 {
		return m.leaf()
	}
	switch m.Intn(6) {
	case 0:
		return api.Node{K: api.NdCons, L: []api.Node{part(), part()}}
	case 1:
		return api.Node{K: api.NdTuple, L: m.many(3, part)}
	case 2:
		if role == "guarded" {
			return api.Node{K: api.NdOp, S: pick(m, "+", "-", "*"), L: []api.Node{part(), part()}}
		}
	}
	return m.leaf()
}

func (m maker) expr(deep int) api.Node {
	part := func() api.Node { return m.expr(deep - 1) }
	if deep <= 0 {
		return m.leaf()
	}
	switch m.Intn(16) {
	case 0:
		return api.Node{K: api.NdOp, S: pick(m, strings.Fields(modelArith+" "+modelComps)...), L: []api.Node{part(), part()}}
	case 1:
		return api.Node{K: api.NdMatch, L: []api.Node{m.value(deep-1, "pattern"), part()}}
	case 2:
		return api.Node{K: api.NdCall, S: m.atom(), L: m.many(pick(m, 2, 8), part)}
	case 3:
		return api.Node{K: api.NdRemote, S: m.atom(), T: m.atom(), L: m.many(pick(m, 2, 8), part)}
	case 4:
		return with(api.Node{K: api.NdApply, L: []api.Node{{K: api.NdVar, S: m.name()}}}, m.many(pick(m, 2, 8), part)...)
	case 5:
		return api.Node{K: api.NdRef, S: m.atom(), T: m.atom(), N: m.Intn(9)}
	case 6, 7:
		n := api.Node{K: api.NdCase, L: []api.Node{part()}}
		for range 1 + m.Intn(2) {
			n.L = append(n.L, m.clause(1, deep-1))
		}
		return n
	case 8, 9:
		n := api.Node{K: api.NdTry, L: []api.Node{part()}}
		for range 1 + m.Intn(2) {
			c := m.clause(2, deep-1)
			c.L[0] = pick(m, api.Node{K: api.NdVar, S: m.name()}, api.Node{K: api.NdAtom, S: pick(m, "error", "exit", "throw")})
			n.L = append(n.L, c)
		}
		return n
	case 10, 11:
		n := api.Node{K: api.NdRecv, N: m.Intn(2)}
		for range 1 - n.N + m.Intn(3) {
			n.L = append(n.L, m.clause(1, deep-1))
		}
		if n.N == 1 {
			n.L = append(n.L, api.Node{K: api.NdAfter, L: append([]api.Node{part()}, m.exprs(deep-1)...)})
		}
		return n
	}
	return m.value(deep, "expr")
}

// spoil changes one thing somewhere in a tree, which may be right behind it or not.
func (m maker) spoil(n api.Node, pool []api.Node) api.Node {
	n.L = slices.Clone(n.L)
	if len(n.L) > 0 && m.Intn(8) > 0 {
		i := m.Intn(len(n.L))
		n.L[i] = m.spoil(n.L[i], pool)
		return n
	}
	at := m.Intn(len(n.L) + 1)
	switch m.Intn(9) {
	case 0:
		n.K = int8(m.Intn(25) - 2)
	case 1:
		n.N = pick(m, -1, 0, 1, 2, 3, 8, 9, api.MaxInt, api.MaxInt+1, -api.MaxInt-1, -api.MaxInt-2)
	case 2:
		n.S = pick(m, "", "a", "X", "_", "+", "div", "=<", "when", "error", "is_atom", "is_list", "1", "a b", strings.Repeat("a", 33))
	case 3:
		n.T = pick(m, "", "a", "X", "end", strings.Repeat("a", 33))
	case 4:
		if at < len(n.L) {
			n.L = slices.Delete(n.L, at, at+1)
		}
	case 5:
		if at < len(n.L) {
			n.L[at] = pick(m, pool...)
		}
	case 6:
		n.L = slices.Insert(n.L, at, pick(m, pool...))
	case 7:
		if at < len(n.L) {
			n.L = slices.Insert(n.L, at, n.L[at])
		}
	case 8:
		return pick(m, pool...)
	}
	return n
}
