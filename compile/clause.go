package compile

import "pleach/api"

func (m *maker) function(f api.Node) {
	defer m.give(0)
	for range f.N {
		m.take("")
	}
	m.fn.At = len(m.ops)
	for _, c := range f.L {
		m.clause(c, 0, true, nil)
	}
	m.fail("function_clause", 0)
}

// clause holds values against a clause's patterns, from that slot on; it goes on behind itself, if they do not match or its guard does not hold.
func (m *maker) clause(c api.Node, values int, tail bool, end *int) {
	defer m.give(len(m.names))
	lost, losing := m.later()
	next, going := m.later()
	for i, p := range c.L[:c.N] {
		m.load(values + i)
		m.against(p, lost)
	}
	if guard := c.L[c.N]; len(guard.L) > 0 {
		m.lead(api.Code{Op: api.OpGuard, P: m.slotted(guard)}, next)
	}
	m.body(c.L[c.N+1:], tail, end)
	losing()
	if c.N > 0 {
		m.put(api.Code{Op: api.OpPop})
	}
	going()
}

// body is that of a clause, and goes from there to the end.
func (m *maker) body(l []api.Node, tail bool, end *int) {
	last := len(l) - 1
	for _, n := range l[:last] {
		m.value(n, false)
		m.put(api.Code{Op: api.OpPop})
	}
	m.value(l[last], tail)
	m.leave(tail, end)
}

func (m *maker) choice(n api.Node, tail bool) {
	defer m.give(len(m.names))
	end, ending := m.later()
	m.value(n.L[0], false)
	s := m.store()
	for _, c := range n.L[1:] {
		m.clause(c, s, tail, end)
	}
	m.load(s)
	m.fail("case_clause", 1)
	ending()
}

func (m *maker) try(n api.Node, tail bool) {
	defer m.give(len(m.names))
	end, ending := m.later()
	m.tried(n.L[0], tail, end)
	class, reason := m.take(""), m.take("")
	m.put(api.Code{Op: api.OpStore, A: reason}, api.Code{Op: api.OpStore, A: class})
	for _, c := range n.L[1:] {
		m.clause(c, class, tail, end)
	}
	m.load(class)
	m.load(reason)
	m.fail("raise", 2)
	ending()
}

// tried is the expression of a try, up to where its handler is; what it takes and binds is its own.
func (m *maker) tried(n api.Node, tail bool, end *int) {
	defer m.give(len(m.names))
	handler, catching := m.later()
	m.lead(api.Code{Op: api.OpTry}, handler)
	m.value(n, false)
	m.put(api.Code{Op: api.OpEnd})
	m.back(tail)
	m.leave(tail, end)
	catching()
}
