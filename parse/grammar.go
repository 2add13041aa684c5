package parse

import (
	"maps"

	"pleach/api"
	"pleach/ast"
	"pleach/ints"
)

// modules: { Module }
func (r *reader) modules(n *api.Node) (f api.Flaw) {
	n.K = api.NdMods
	return r.while("module", r.module)(n)
}

// module: 'module' NAME . { Func }
func (r *reader) module(n *api.Node) (f api.Flaw) {
	n.K = api.NdMod
	return steps(n, r.must("module"), r.name(&n.S), r.must(stopWord), r.while(nameWord, r.function))
}

// function: Clause { ';' Clause } .
func (r *reader) function(n *api.Node) (f api.Flaw) {
	n.K = api.NdFun
	return steps(n, r.list(";", endless, r.clause(n)), r.must(stopWord))
}

// clause: NAME '(' [ Pat { ',' Pat } ] ')' .., one of that function; the first one tells the function's name and arity.
func (r *reader) clause(of *api.Node) rule {
	return func(n *api.Node) (f api.Flaw) {
		first := len(of.L) == 0
		if !r.is(nameWord) || !first && r.tokens[0].S != of.S {
			return r.refuse(api.ErrParse)
		}
		head := r.take()
		if f = r.enclosed("(", api.MaxArity, r.pattern.read, ")")(n); f.E != api.OK {
			return f
		}
		if first {
			of.S, of.N = head.S, len(n.L)
		}
		if len(n.L) != of.N {
			return api.Flaw{E: api.ErrParse, At: head.At}
		}
		return r.behind(n)
	}
}

// behind reads what stands behind a clause's patterns: [ 'when' Test { ',' Test } ] '->' Body
func (r *reader) behind(n *api.Node) (f api.Flaw) {
	n.K, n.N = api.NdClause, len(n.L)
	return steps(n, part(r.guard), r.must("->"), r.body)
}

func (r *reader) guard(n *api.Node) (f api.Flaw) {
	n.K = api.NdGuard
	if r.took("when") {
		f = r.list(",", endless, r.test)(n)
	}
	return f
}

// body: Expr { ',' Expr }
func (r *reader) body(n *api.Node) (f api.Flaw) {
	return r.list(",", endless, r.expr.read)(n)
}

// test: NAME '(' GExpr ')' | '(' GExpr Compare GExpr ')'
func (r *reader) test(n *api.Node) (f api.Flaw) {
	return r.way(n, map[string]rule{nameWord: r.asked, "(": r.guarded.operation(r.compare)})
}

func (r *reader) asked(n *api.Node) (f api.Flaw) {
	n.K = api.NdTest
	if f = r.said(tests(r.tokens[0].S), &n.S); f.E != api.OK {
		return f
	}
	return steps(n, r.must("("), part(r.guarded.read), r.must(")"))
}

// tests tells whether there is a test of that name.
func tests(s string) bool {
	return ast.Test(api.Node{K: api.NdTest, S: s, L: []api.Node{{K: api.NdNil}}})
}

// common are the ways that all nests have: VAR | Int | NAME | '[' .. | '{' ..
func (t *nest) common() map[string]rule {
	return map[string]rule{
		varWord:  t.variable,
		intWord:  t.integer,
		"-":      t.negative,
		nameWord: t.atom,
		"[":      t.brackets,
		"{":      t.tuple,
	}
}

func (r *reader) guardedWays() map[string]rule {
	ways := r.guarded.common()
	ways["("] = r.guarded.operation(r.plus)
	return ways
}

func (r *reader) exprWays() map[string]rule {
	ways := r.expr.common()
	maps.Copy(ways, map[string]rule{
		varWord:   r.applied,
		nameWord:  r.called,
		"(":       r.expr.operation(r.infix),
		"fun":     r.ref,
		"case":    r.choice,
		"try":     r.try,
		"receive": r.receive,
	})
	return ways
}

func (r *reader) variable(n *api.Node) (f api.Flaw) {
	n.K, n.S = api.NdVar, r.take().S
	return f
}

func (r *reader) atom(n *api.Node) (f api.Flaw) {
	n.K, n.S = api.NdAtom, r.take().S
	return f
}

func (r *reader) integer(n *api.Node) (f api.Flaw) {
	n.K = api.NdInt
	return r.number(api.MaxInt)(n)
}

// negative: '-' INT
func (r *reader) negative(n *api.Node) (f api.Flaw) {
	n.K = api.NdInt
	f = steps(n, r.must("-"), r.number(api.MaxInt+1))
	n.N = -n.N
	return f
}

// brackets: '[' ']' | '[' one '|' one ']'
func (t *nest) brackets(n *api.Node) (f api.Flaw) {
	t.take()
	if t.took("]") {
		n.K = api.NdNil
		return f
	}
	n.K = api.NdCons
	return steps(n, part(t.read), t.must("|"), part(t.read), t.must("]"))
}

func (t *nest) tuple(n *api.Node) (f api.Flaw) {
	n.K = api.NdTuple
	return t.enclosed("{", endless, t.read, "}")(n)
}

// operation: '(' one operator one ')'
func (t *nest) operation(operator rule) rule {
	return func(n *api.Node) (f api.Flaw) {
		n.K = api.NdOp
		return steps(n, t.must("("), part(t.read), operator, part(t.read), t.must(")"))
	}
}

func (r *reader) plus(n *api.Node) (f api.Flaw) {
	return r.said(r.is("+") || r.is("-") || r.is("*"), &n.S)
}

func (r *reader) compare(n *api.Node) (f api.Flaw) {
	_, compares := ints.Compare(r.word(), 0)
	return r.said(compares, &n.S)
}

// infix reads what stands between the parts of an operation, or of a match, which it makes of it then.
func (r *reader) infix(n *api.Node) (f api.Flaw) {
	switch {
	case ints.Arith(r.word()):
		return r.said(true, &n.S)
	case !r.is("="):
		return r.compare(n)
	case !ast.Pattern(n.L[0]):
		return r.refuse(api.ErrParse)
	}
	n.K = api.NdMatch
	return r.must("=")(n)
}

// applied: VAR [ Args ]
func (r *reader) applied(n *api.Node) (f api.Flaw) {
	if f = r.variable(n); !r.is("(") {
		return f
	}
	*n = api.Node{K: api.NdApply, L: []api.Node{*n}}
	return r.arguments(n)
}

// called: NAME [ Args | ':' NAME Args ]
func (r *reader) called(n *api.Node) (f api.Flaw) {
	f = r.atom(n)
	switch r.word() {
	case "(":
		n.K = api.NdCall
		return r.arguments(n)
	case ":":
		n.K = api.NdRemote
		return steps(n, r.must(":"), r.name(&n.T), r.arguments)
	}
	return f
}

// arguments: '(' [ Expr { ',' Expr } ] ')'
func (r *reader) arguments(n *api.Node) (f api.Flaw) {
	return r.enclosed("(", api.MaxArity, r.expr.read, ")")(n)
}

// ref: 'fun' NAME ':' NAME '/' INT
func (r *reader) ref(n *api.Node) (f api.Flaw) {
	n.K = api.NdRef
	return steps(n, r.must("fun"), r.name(&n.S), r.must(":"), r.name(&n.T), r.must("/"), r.number(api.MaxArity))
}

// choice: 'case' Expr 'of' Alt { ';' Alt } 'end'
func (r *reader) choice(n *api.Node) (f api.Flaw) {
	n.K = api.NdCase
	return steps(n, r.must("case"), part(r.expr.read), r.must("of"), r.alternatives, r.must("end"))
}

func (r *reader) alternatives(n *api.Node) (f api.Flaw) {
	return r.list(";", endless, r.alternative)(n)
}

// alternative: Pat [ 'when' .. ] '->' Body
func (r *reader) alternative(n *api.Node) (f api.Flaw) {
	return steps(n, part(r.pattern.read), r.behind)
}

// try: 'try' Expr 'catch' Catch { ';' Catch } 'end'
func (r *reader) try(n *api.Node) (f api.Flaw) {
	n.K = api.NdTry
	return steps(n, r.must("try"), part(r.expr.read), r.must("catch"), r.list(";", endless, r.catch), r.must("end"))
}

// catch: ( NAME | VAR ) ':' Pat [ 'when' .. ] '->' Body
func (r *reader) catch(n *api.Node) (f api.Flaw) {
	return steps(n, part(r.class), r.must(":"), part(r.pattern.read), r.behind)
}

func (r *reader) class(n *api.Node) (f api.Flaw) {
	return r.way(n, map[string]rule{nameWord: r.named, varWord: r.variable})
}

// named reads the name of a class.
func (r *reader) named(n *api.Node) (f api.Flaw) {
	switch r.tokens[0].S {
	case "error", "exit", "throw":
		return r.atom(n)
	}
	return r.refuse(api.ErrParse)
}

// receive: 'receive' [ Alt { ';' Alt } ] [ 'after' .. ] 'end', one of the two at least
func (r *reader) receive(n *api.Node) (f api.Flaw) {
	n.K = api.NdRecv
	r.take()
	if r.is("end") {
		return r.refuse(api.ErrParse)
	}
	if !r.is("after") {
		f = r.alternatives(n)
	}
	if f.E == api.OK && r.is("after") {
		n.N = 1
		f = part(r.after)(n)
	}
	if f.E != api.OK {
		return f
	}
	return r.must("end")(n)
}

// after: 'after' Expr '->' Body
func (r *reader) after(n *api.Node) (f api.Flaw) {
	n.K = api.NdAfter
	return steps(n, r.must("after"), part(r.expr.read), r.must("->"), r.body)
}
