package eval

import (
	"strconv"

	"pleach/api"
	"pleach/ints"
	"pleach/term"
)

// classes are the classes' names.
var classes = [...]string{
	api.ClError: "error",
	api.ClExit:  "exit",
	api.ClThrow: "throw",
}

// Pure: P12.2.
func Pure(name string, args []api.Term) (api.Out, bool) {
	if !each(args, may) {
		return api.Out{}, false
	}
	switch (api.Fn{T: name, N: len(args)}) {
	case api.Fn{T: "error", N: 1}:
		return api.Out{Class: api.ClError, T: args[0]}, true
	case api.Fn{T: "exit", N: 1}:
		return api.Out{Class: api.ClExit, T: args[0]}, true
	case api.Fn{T: "throw", N: 1}:
		return api.Out{Class: api.ClThrow, T: args[0]}, true
	case api.Fn{T: "element", N: 2}:
		return element(args[0], args[1]), true
	case api.Fn{T: "length", N: 1}:
		return length(args[0]), true
	case api.Fn{T: "hd", N: 1}:
		return half(args[0], 0), true
	case api.Fn{T: "tl", N: 1}:
		return half(args[0], 1), true
	case api.Fn{T: "tuple_size", N: 1}:
		return tupleSize(args[0]), true
	}
	return api.Out{}, false
}

// Arith: P12.2.
func Arith(op string, a, b api.Term) api.Out {
	if !may(a) || !may(b) {
		return failed("badarith")
	}
	if says, ok := ints.Compare(op, term.Compare(a, b)); ok {
		return value(atom(strconv.FormatBool(says)))
	}
	if a.K != api.KInt || b.K != api.KInt {
		return failed("badarith")
	}
	switch n, e := ints.Do(op, a.N, b.N); e {
	case api.OK:
		return value(integer(n))
	case api.ErrLimit:
		return failed("system_limit")
	}
	return failed("badarith")
}

func element(n, t api.Term) api.Out {
	if n.K != api.KInt || t.K != api.KTuple || n.N < 1 || n.N > len(t.L) {
		return failed("badarg")
	}
	return value(t.L[n.N-1])
}

func length(t api.Term) api.Out {
	l, ok := term.List(t)
	if !ok {
		return failed("badarg")
	}
	return value(integer(len(l)))
}

// half is a cons' head (0) or its tail (1).
func half(t api.Term, at int) api.Out {
	if t.K != api.KCons {
		return failed("badarg")
	}
	return value(t.L[at])
}

func tupleSize(t api.Term) api.Out {
	if t.K != api.KTuple {
		return failed("badarg")
	}
	return value(integer(len(t.L)))
}

func value(t api.Term) api.Out { return api.Out{T: t} }

// failed is the exception error, of an atom.
func failed(s string) api.Out { return api.Out{Class: api.ClError, T: atom(s)} }

// failedBy is the exception error, of a pair of an atom and the term that it is about.
func failedBy(s string, t api.Term) api.Out {
	pair, e := term.Tuple([]api.Term{atom(s), t})
	if e != api.OK {
		return failed("system_limit")
	}
	return api.Out{Class: api.ClError, T: pair}
}

func isValue(o api.Out) bool { return o.Class == api.ClNone && o.Why == api.WhyNot }

func atom(s string) api.Term { return api.Term{K: api.KAtom, S: s} }

func integer(n int) api.Term { return api.Term{K: api.KInt, N: n} }
