package ast

import (
	"pleach/api"
	"pleach/atoms"
	"pleach/ints"
	"pleach/scan"
)

// place is where a node stands.
type place uint16

const (
	atTop place = 1 << iota
	atMod
	atFun
	atClause
	atGuard
	atTest
	atGuarded // a guard expression's
	atPattern
	atExpr
	atAfter // behind the clauses of a receive
)

const (
	inTerms = atPattern | atGuarded | atExpr
	kinds   = int(api.NdAfter) + 1
)

// field is one that a node names.
type field uint8

const (
	hasN field = 1 << iota
	hasS
	hasT
	hasL
)

// nature is what nodes of one kind are: where they may stand, and which fields they name.
type nature struct {
	places place
	fields field
}

var natures = [kinds]nature{
	api.NdMods:   {atTop, hasL},
	api.NdMod:    {atMod, hasS | hasL},
	api.NdFun:    {atFun, hasS | hasN | hasL},
	api.NdClause: {atClause, hasN | hasL},
	api.NdGuard:  {atGuard, hasL},
	api.NdVar:    {inTerms, hasS},
	api.NdInt:    {inTerms, hasN},
	api.NdAtom:   {inTerms, hasS},
	api.NdNil:    {inTerms, 0},
	api.NdCons:   {inTerms, hasL},
	api.NdTuple:  {inTerms, hasL},
	api.NdOp:     {atTest | atGuarded | atExpr, hasS | hasL},
	api.NdTest:   {atTest, hasS | hasL},
	api.NdMatch:  {atExpr, hasL},
	api.NdCall:   {atExpr, hasS | hasL},
	api.NdRemote: {atExpr, hasS | hasT | hasL},
	api.NdApply:  {atExpr, hasL},
	api.NdRef:    {atExpr, hasS | hasT | hasN},
	api.NdCase:   {atExpr, hasL},
	api.NdTry:    {atExpr, hasL},
	api.NdRecv:   {atExpr, hasN | hasL},
	api.NdAfter:  {atAfter, hasL},
}

// shapes tell of each kind whether a node's own fields, and its parts, are such, if it stands at that place.
func shapes() [kinds]func(n api.Node, at place) bool {
	return [kinds]func(n api.Node, at place) bool{
		api.NdMods:   func(n api.Node, _ place) bool { return all(n.L, atMod) },
		api.NdMod:    func(n api.Node, _ place) bool { return atom(n.S) && all(n.L, atFun) },
		api.NdFun:    function,
		api.NdClause: clause,
		api.NdGuard:  func(n api.Node, _ place) bool { return all(n.L, atTest) },
		api.NdVar:    func(n api.Node, _ place) bool { return atoms.Name(n.S) },
		api.NdInt:    func(n api.Node, _ place) bool { return ints.May(n.N) },
		api.NdAtom:   func(n api.Node, _ place) bool { return atom(n.S) },
		api.NdNil:    func(api.Node, place) bool { return true },
		api.NdCons:   func(n api.Node, at place) bool { return len(n.L) == 2 && all(n.L, at) },
		api.NdTuple:  func(n api.Node, at place) bool { return all(n.L, at) },
		api.NdOp:     operation,
		api.NdTest:   func(n api.Node, _ place) bool { return tested(n.S) && len(n.L) == 1 && all(n.L, atGuarded) },
		api.NdMatch:  func(n api.Node, _ place) bool { return len(n.L) == 2 && may(n.L[0], atPattern) && may(n.L[1], atExpr) },
		api.NdCall:   func(n api.Node, _ place) bool { return atom(n.S) && arguments(n.L) },
		api.NdRemote: func(n api.Node, _ place) bool { return atom(n.S) && atom(n.T) && arguments(n.L) },
		api.NdApply:  apply,
		api.NdRef:    func(n api.Node, _ place) bool { return atom(n.S) && atom(n.T) && arity(n.N) },
		api.NdCase:   func(n api.Node, _ place) bool { return choice(n.L, 1) },
		api.NdTry:    try,
		api.NdRecv:   receive,
		api.NdAfter:  func(n api.Node, _ place) bool { return len(n.L) >= 2 && all(n.L, atExpr) },
	}
}

// may tells whether a node of a tree within the limits may stand at that place.
func may(n api.Node, at place) bool {
	if n.K < 0 || int(n.K) >= kinds {
		return false
	}
	k := natures[n.K]
	return k.places&at != 0 && blank(n, k.fields) && shapes()[n.K](n, at)
}

// blank tells whether all fields but those are empty.
func blank(n api.Node, but field) bool {
	return (n.N == 0 || but&hasN != 0) &&
		(n.S == "" || but&hasS != 0) &&
		(n.T == "" || but&hasT != 0) &&
		(len(n.L) == 0 || but&hasL != 0)
}

// all tells whether each of those nodes may stand at that place.
func all(l []api.Node, at place) bool {
	for _, n := range l {
		if !may(n, at) {
			return false
		}
	}
	return true
}

// atom tells whether it is one in a tree: what the scanner takes for a word would be read as that.
func atom(s string) bool { return atoms.May(s) && !scan.Word(s) }

func arity(n int) bool { return 0 <= n && n <= api.MaxArity }

func arguments(l []api.Node) bool { return arity(len(l)) && all(l, atExpr) }

func tested(s string) bool {
	switch s {
	case "is_atom", "is_integer", "is_pid", "is_reference", "is_tuple", "is_list", "is_function":
		return true
	}
	return false
}

func function(n api.Node, _ place) bool {
	return atom(n.S) && arity(n.N) && clauses(n.L, n.N)
}

func clause(n api.Node, _ place) bool {
	// The guard, and one expression at least, stand behind the patterns.
	if n.N < 0 || n.N > len(n.L)-2 {
		return false
	}
	return all(n.L[:n.N], atPattern) && may(n.L[n.N], atGuard) && all(n.L[n.N+1:], atExpr)
}

// clauses tells whether they are clauses of so many patterns, at least one.
func clauses(l []api.Node, many int) bool {
	for _, c := range l {
		if c.N != many {
			return false
		}
	}
	return len(l) > 0 && all(l, atClause)
}

func operation(n api.Node, at place) bool {
	return operator(n.S, at) && len(n.L) == 2 && all(n.L, operand(at))
}

func operator(op string, at place) bool {
	_, compares := ints.Compare(op, 0)
	switch at {
	case atTest:
		return compares
	case atGuarded:
		return op == "+" || op == "-" || op == "*"
	}
	return compares || ints.Arith(op)
}

// operand is where the parts of an operation stand that stands at that place.
func operand(at place) place {
	if at == atTest {
		return atGuarded
	}
	return at
}

func apply(n api.Node, _ place) bool {
	return len(n.L) > 0 && n.L[0].K == api.NdVar && may(n.L[0], atExpr) && arguments(n.L[1:])
}

// choice tells whether it is an expression, and behind it clauses of so many patterns.
func choice(l []api.Node, many int) bool {
	return len(l) > 0 && may(l[0], atExpr) && clauses(l[1:], many)
}

func try(n api.Node, _ place) bool {
	if !choice(n.L, 2) {
		return false
	}
	for _, c := range n.L[1:] {
		if !class(c.L[0]) {
			return false
		}
	}
	return true
}

// class tells whether a pattern may stand for the class of an exception.
func class(p api.Node) bool {
	switch p.K {
	case api.NdVar:
		return true
	case api.NdAtom:
		return p.S == "error" || p.S == "exit" || p.S == "throw"
	}
	return false
}

func receive(n api.Node, _ place) bool {
	last := len(n.L) - 1
	switch {
	case n.N == 0:
		return clauses(n.L, 1)
	case n.N != 1 || last < 0 || !may(n.L[last], atAfter):
		return false
	}
	return last == 0 || clauses(n.L[:last], 1)
}
