package frame

import (
	"slices"

	"pleach/api"
	"pleach/term"
)

const (
	kinds    = int(api.FrSuper) + 1
	infinity = -2 // the least Wait there is
)

// rulesOf tell of each kind whether a frame may be.
func rulesOf() [kinds]func(p api.Prog, f api.Frame) bool {
	anything := func(api.Prog, api.Frame) bool { return true }
	return [kinds]func(p api.Prog, f api.Frame) bool{
		api.FrCode:   such,
		api.FrGen:    anything,
		api.FrServer: anything,
		api.FrStop:   anything,
		api.FrStart:  anything,
		api.FrSuper:  anything,
	}
}

// such tells whether a code frame may be.
func such(p api.Prog, f api.Frame) bool {
	return place(f.Fn, len(p.Fns)) && place(f.Pc, len(p.Ops)) &&
		len(f.Slots) == p.Fns[f.Fn].Slots && len(f.Bound) == len(f.Slots) &&
		len(f.Stack) <= 2*api.MaxTerm && len(f.Tries) <= api.MaxDepth &&
		within(f.Wait, infinity, api.MaxNow) &&
		each(f.Tries, func(h api.Try) bool { return place(h.At, len(p.Ops)) && within(h.High, 0, len(f.Stack)) }) &&
		each(f.Slots, may) && each(f.Stack, may)
}

// ofMachine tells whether a frame is a machine's; those of kinds that there are not are, too.
func ofMachine(f api.Frame) bool { return f.Kind != api.FrCode }

func may(t api.Term) bool { return term.Check(t) == api.OK }

func each[T any](l []T, such func(T) bool) bool {
	return !slices.ContainsFunc(l, func(x T) bool { return !such(x) })
}

// place tells whether a number is a place in a row of so many.
func place(n, many int) bool { return within(n, 0, many-1) }

func within(n, least, most int) bool { return least <= n && n <= most }
