package code

import (
	"slices"

	"pleach/api"
	"pleach/ast"
	"pleach/ints"
	"pleach/rules"
	"pleach/term"
)

const kinds = int(api.OpWait) + 1

// field is one that an instruction names.
type field uint8

const (
	hasA field = 1 << iota
	hasB
	hasT
	hasP
	hasL
)

// fields are those that instructions of each kind name.
var fields = [kinds]field{
	api.OpConst: hasT,
	api.OpLoad:  hasA,
	api.OpStore: hasA,
	api.OpPop:   0,
	api.OpTuple: hasA,
	api.OpCons:  0,
	api.OpArith: hasT,
	api.OpBuilt: hasT | hasA,
	api.OpCall:  hasB | hasA,
	api.OpTail:  hasB | hasA,
	api.OpApply: hasA,
	api.OpRet:   0,
	api.OpJump:  hasA,
	api.OpMatch: hasP | hasA | hasB,
	api.OpGuard: hasP | hasA,
	api.OpFail:  hasT | hasB,
	api.OpTry:   hasA,
	api.OpEnd:   0,
	api.OpRecv:  hasL | hasB | hasA | hasT,
	api.OpWait:  0,
}

// rulesOf tell of each kind whether the fields that its instructions name are such, but for the places that they name.
func rulesOf() [kinds]func(k checker, c api.Code) bool {
	nothing := func(checker, api.Code) bool { return true }
	slot := func(_ checker, c api.Code) bool { return within(c.A, 0, api.MaxSlots-1) }
	leads := func(k checker, c api.Code) bool {
		k.gather(c.A)
		return true
	}
	return [kinds]func(k checker, c api.Code) bool{
		api.OpConst: func(_ checker, c api.Code) bool { return isTerm(c.T) },
		api.OpLoad:  slot,
		api.OpStore: slot,
		api.OpPop:   nothing,
		api.OpTuple: func(_ checker, c api.Code) bool { return within(c.A, 0, api.MaxTerm) },
		api.OpCons:  nothing,
		api.OpArith: func(_ checker, c api.Code) bool { return bare(c.T) && operator(c.T.S) },
		api.OpBuilt: func(_ checker, c api.Code) bool { return bare(c.T) && rules.Built(c.T.S, c.A) },
		api.OpCall:  calls,
		api.OpTail:  calls,
		api.OpApply: func(_ checker, c api.Code) bool { return within(c.A, 0, api.MaxArity) },
		api.OpRet:   nothing,
		api.OpJump:  leads,
		api.OpMatch: matches,
		api.OpGuard: guards,
		api.OpFail:  func(_ checker, c api.Code) bool { return within(c.B, 0, 2) && isTerm(c.T) },
		api.OpTry:   leads,
		api.OpEnd:   nothing,
		api.OpRecv:  receives,
		api.OpWait:  nothing,
	}
}

func calls(k checker, c api.Code) bool {
	return within(c.B, 0, len(k.Fns)-1) && k.Fns[c.B].N == c.A
}

func matches(k checker, c api.Code) bool {
	k.gather(c.A)
	return within(c.B, 0, api.MaxSlots) && ast.Pattern(c.P) && inSlots(c.P)
}

func guards(k checker, c api.Code) bool {
	k.gather(c.A)
	return ast.Guard(c.P) && inSlots(c.P)
}

func receives(k checker, c api.Code) bool {
	return within(c.A, 0, 1) &&
		c.T.K == api.KInt && isTerm(c.T) && within(c.T.N, 0, api.MaxSlots) &&
		within(c.B, 0, len(k.Tab)-1) && len(k.Tab[c.B]) == len(c.L)+1 &&
		!slices.ContainsFunc(c.L, func(n api.Node) bool { return !takes(n) })
}

// takes tells whether a clause may stand in a receive: its body stands elsewhere, in its place is one [].
func takes(n api.Node) bool {
	return ast.Clause(n, 1) && len(n.L) == 3 && n.L[2].K == api.NdNil && inSlots(n)
}

// inSlots tells whether all names of a tree that may be are slots'; _ is none.
func inSlots(n api.Node) bool {
	return !slices.ContainsFunc(ast.Vars(n), func(name string) bool {
		_, ok := Slot(name)
		return !ok
	})
}

// blank tells whether all fields but those are empty.
func blank(c api.Code, but field) bool {
	return (c.A == 0 || but&hasA != 0) &&
		(c.B == 0 || but&hasB != 0) &&
		(noTerm(c.T) || but&hasT != 0) &&
		(noTree(c.P) || but&hasP != 0) &&
		(len(c.L) == 0 || but&hasL != 0)
}

func noTerm(t api.Term) bool {
	return t.K == 0 && t.N == 0 && t.S == "" && t.T == "" && len(t.L) == 0
}

func noTree(n api.Node) bool {
	return n.K == 0 && n.N == 0 && n.S == "" && n.T == "" && len(n.L) == 0
}

func isTerm(t api.Term) bool { return term.Check(t) == api.OK }

// bare tells whether a term has the fields of an atom; its name may be one that no atom has.
func bare(t api.Term) bool {
	return t.K == api.KAtom && t.N == 0 && t.T == "" && len(t.L) == 0
}

func operator(op string) bool {
	_, compares := ints.Compare(op, 0)
	return compares || ints.Arith(op)
}
