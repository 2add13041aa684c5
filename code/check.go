package code

import (
	"slices"

	"pleach/api"
	"pleach/atoms"
)

// places is a set of places of instructions.
type places map[int]struct{}

// checker holds the parts of a code against the rules, and gathers the places that they name.
type checker struct {
	api.Prog
	named places
}

func checkerOf(p api.Prog) checker { return checker{p, places{}} }

func may(p api.Prog) bool {
	if !fits(p) || !over(p.Ops) {
		return false
	}
	k := checkerOf(p)
	for _, l := range p.Tab {
		k.gather(l...)
	}
	return k.functions() && k.instructions(p.Ops...) && k.named.below(len(p.Ops))
}

// fits tells whether a code is within the limits.
func fits(p api.Prog) bool {
	if len(p.Ops) > api.MaxCode || len(p.Fns) > api.MaxCode || len(p.Tab) > api.MaxCode+1 {
		return false
	}
	left := api.MaxCode
	for _, l := range p.Tab {
		left -= len(l)
	}
	return left >= 0
}

// over tells whether nothing goes on behind the last instruction; where there is none, nothing does.
func over(l []api.Code) bool {
	if len(l) == 0 {
		return true
	}
	switch l[len(l)-1].Op {
	case api.OpRet, api.OpTail, api.OpJump, api.OpFail:
		return true
	}
	return false
}

func (k checker) functions() bool {
	seen := map[api.Fn]struct{}{}
	for _, f := range k.Fns {
		if !atoms.May(f.S) || !atoms.May(f.T) || !within(f.N, 0, api.MaxArity) || !within(f.Slots, f.N, api.MaxSlots) {
			return false
		}
		name := api.Fn{S: f.S, T: f.T, N: f.N}
		if _, ok := seen[name]; ok {
			return false
		}
		seen[name] = struct{}{}
		k.gather(f.At)
	}
	return true
}

// instructions tells whether all fields of those instructions are such, but for the places that they name.
func (k checker) instructions(l ...api.Code) bool {
	keeps := rulesOf()
	return !slices.ContainsFunc(l, func(c api.Code) bool {
		return c.Op < 0 || int(c.Op) >= kinds || !blank(c, fields[c.Op]) || !keeps[c.Op](k, c)
	})
}

// gather takes places in; whether they are such is asked of each but once, when all are known.
func (k checker) gather(l ...int) {
	for _, at := range l {
		k.named[at] = struct{}{}
	}
}

// below tells whether all of them are places of so many instructions.
func (s places) below(many int) bool {
	for at := range s {
		if !within(at, 0, many-1) {
			return false
		}
	}
	return true
}

func within(n, least, most int) bool { return least <= n && n <= most }
