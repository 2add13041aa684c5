package compile

import (
	"pleach/api"
	"pleach/code"
)

// leaves are the kinds of the terms that a node without parts is.
var leaves = [...]int8{
	api.NdInt:  api.KInt,
	api.NdAtom: api.KAtom,
	api.NdNil:  api.KNil,
	api.NdRef:  api.KFun,
}

// value leaves the value of an expression on top; in tail position the function goes back with it.
func (m *maker) value(n api.Node, tail bool) { m.kinds[n.K](n, tail) }

func (m *maker) values(l []api.Node) {
	for _, n := range l {
		m.value(n, false)
	}
}

func (m *maker) variable(n api.Node, tail bool) {
	m.load(m.slot(n.S))
	m.back(tail)
}

func (m *maker) leaf(n api.Node, tail bool) {
	m.put(api.Code{Op: api.OpConst, T: api.Term{K: leaves[n.K], N: n.N, S: n.S, T: n.T}})
	m.back(tail)
}

// parts puts an instruction behind the values that it takes.
func (m *maker) parts(l []api.Node, tail bool, c api.Code) {
	m.values(l)
	m.put(c)
	m.back(tail)
}

func (m *maker) cons(n api.Node, tail bool) {
	m.parts(n.L, tail, api.Code{Op: api.OpCons})
}

func (m *maker) tuple(n api.Node, tail bool) {
	m.parts(n.L, tail, api.Code{Op: api.OpTuple, A: len(n.L)})
}

func (m *maker) op(n api.Node, tail bool) {
	m.parts(n.L, tail, api.Code{Op: api.OpArith, T: atom(n.S)})
}

func (m *maker) apply(n api.Node, tail bool) {
	m.parts(n.L, tail, api.Code{Op: api.OpApply, A: len(n.L) - 1})
}

func (m *maker) match(n api.Node, tail bool) {
	m.value(n.L[1], false)
	lost, losing := m.later()
	end, ending := m.later()
	s := m.store()
	m.load(s)
	m.against(n.L[0], lost)
	m.load(s)
	m.leave(false, end)
	losing()
	m.fail("badmatch", 1)
	ending()
	m.back(tail)
}

func (m *maker) local(n api.Node, tail bool) {
	if at, ok := code.Find(m.p, m.fn.S, n.S, len(n.L)); ok {
		m.call(at, n.L, tail)
		return
	}
	m.parts(n.L, tail, api.Code{Op: api.OpBuilt, T: atom(n.S), A: len(n.L)})
}

func (m *maker) remote(n api.Node, tail bool) {
	// That there is such a function is one of the rules.
	at, _ := code.Find(m.p, n.S, n.T, len(n.L))
	m.call(at, n.L, tail)
}

// call calls the function of that place; in tail position it stands in this one's place, so nothing goes back here.
func (m *maker) call(at int, args []api.Node, tail bool) {
	op := api.OpCall
	if tail {
		op = api.OpTail
	}
	m.parts(args, false, api.Code{Op: op, A: len(args), B: at})
}
