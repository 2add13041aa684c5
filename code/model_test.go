package code

import (
	"regexp"
	"slices"

	"pleach/api"
	"pleach/ast"
	"pleach/atoms"
	"pleach/term"
)

// slotOr is a slot's name, or _.
var slotOr = regexp.MustCompile(`^(_|V([0-9]|[12][0-9]|3[01]))$`)

// reading tells whether a code may be, by a plain reading of the chapter.
func reading(p api.Prog) bool {
	places := 0
	for _, l := range p.Tab {
		for _, at := range l {
			places++
			if at < 0 || at >= len(p.Ops) {
				return false
			}
		}
	}
	if len(p.Ops) > 4096 || len(p.Fns) > 4096 || len(p.Tab) > 4097 || places > 4096 {
		return false
	}
	for i, f := range p.Fns {
		if !atoms.May(f.S) || !atoms.May(f.T) || f.N < 0 || f.N > 8 || f.At < 0 || f.At >= len(p.Ops) || f.Slots < f.N || f.Slots > 32 {
			return false
		}
		for _, g := range p.Fns[:i] {
			if f.S == g.S && f.T == g.T && f.N == g.N {
				return false
			}
		}
	}
	for _, c := range p.Ops {
		if !readingOne(p, c) {
			return false
		}
	}
	return len(p.Ops) == 0 || slices.Contains([]int8{11, 9, 12, 15}, p.Ops[len(p.Ops)-1].Op)
}

// readingOne tells whether an instruction may stand in a code. What an instruction names is taken out of it; the rest must be nothing.
func readingOne(p api.Prog, c api.Code) bool {
	rest, such := c, false
	rest.Op = 0
	place := c.A >= 0 && c.A < len(p.Ops)
	switch c.Op {
	case api.OpConst:
		such, rest.T = term.Check(c.T) == api.OK, api.Term{}
	case api.OpLoad, api.OpStore:
		such, rest.A = c.A >= 0 && c.A <= 31, 0
	case api.OpPop, api.OpCons, api.OpRet, api.OpEnd, api.OpWait:
		such = true
	case api.OpTuple:
		such, rest.A = c.A >= 0 && c.A <= 256, 0
	case api.OpArith:
		such = c.T.K == api.KAtom && slices.Contains([]string{"+", "-", "*", "div", "rem", "=:=", "=/=", "<", "=<", ">", ">="}, c.T.S)
		rest.T.K, rest.T.S = 0, ""
	case api.OpBuilt:
		n, ok := map[string][]int{"self": {0}, "hd": {1}, "exit": {1, 2}, "call": {3}}[c.T.S]
		such = c.T.K == api.KAtom && ok && slices.Contains(n, c.A)
		rest.T.K, rest.T.S, rest.A = 0, "", 0
	case api.OpCall, api.OpTail:
		such = c.B >= 0 && c.B < len(p.Fns) && p.Fns[c.B].N == c.A
		rest.A, rest.B = 0, 0
	case api.OpApply:
		such, rest.A = c.A >= 0 && c.A <= 8, 0
	case api.OpJump, api.OpTry:
		such, rest.A = place, 0
	case api.OpMatch:
		such = place && c.B >= 0 && c.B <= 32 && ast.Pattern(c.P) && readingNames(c.P)
		rest.A, rest.B, rest.P = 0, 0, api.Node{}
	case api.OpGuard:
		such, rest.A, rest.P = place && ast.Guard(c.P) && readingNames(c.P), 0, api.Node{}
	case api.OpFail:
		such, rest.B, rest.T = term.Check(c.T) == api.OK && c.B >= 0 && c.B <= 2, 0, api.Term{}
	case api.OpRecv:
		such = c.T.K == api.KInt && c.T.N >= 0 && c.T.N <= 32 && (c.A == 0 || c.A == 1) && c.B >= 0 && c.B < len(p.Tab) && len(p.Tab[c.B]) == len(c.L)+1
		for _, n := range c.L {
			such = such && ast.Clause(n, 1) && len(n.L) == 3 && n.L[2].K == api.NdNil && readingNames(n)
		}
		rest.A, rest.B, rest.T.N, rest.L = 0, 0, 0, nil
	}
	return such && rest.A == 0 && rest.B == 0 && plainTerm(rest.T) && plainTree(rest.P) && len(rest.L) == 0
}

func plainTerm(t api.Term) bool {
	return term.Text(t) == "0"
}

func plainTree(n api.Node) bool {
	return ast.Check(n) == api.OK && ast.Text(n) == ""
}

// readingNames tells whether all names of a tree that may be are slots', or _.
func readingNames(n api.Node) bool {
	if n.K == api.NdVar && !slotOr.MatchString(n.S) {
		return false
	}
	return !slices.ContainsFunc(n.L, func(p api.Node) bool { return !readingNames(p) })
}
