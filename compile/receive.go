package compile

import (
	"slices"

	"pleach/api"
)

func (m *maker) receive(n api.Node, tail bool) {
	defer m.give(len(m.names))
	end, ending := m.later()
	clauses, after := n.L, []api.Node(nil)
	if n.N == 1 {
		clauses, after = n.L[:len(n.L)-1], n.L[len(n.L)-1].L
	}
	timed := m.wait(after)
	table := m.recv(clauses, n.N)
	for i, c := range clauses {
		table[i] = len(m.ops)
		m.taken(c, tail, end)
	}
	if n.N == 1 {
		m.names = timed
		table[len(clauses)] = len(m.ops)
		m.body(after[1:], tail, end)
	}
	ending()
}

// wait puts the time of a receive ahead of it, if there is one, and tells the names as they are bound where it is over. To the clauses, what the time binds is not bound; its slots stay taken.
func (m *maker) wait(after []api.Node) []string {
	if len(after) == 0 {
		return nil
	}
	ahead := len(m.names)
	m.value(after[0], false)
	m.put(api.Code{Op: api.OpWait})
	timed := slices.Clone(m.names)
	clear(m.names[ahead:])
	return timed
}

// recv puts the receive itself behind, and tells its table, which leads nowhere but to itself so far.
func (m *maker) recv(clauses []api.Node, timed int) []int {
	c := api.Code{Op: api.OpRecv, A: timed, B: len(m.p.Tab), T: api.Term{K: api.KInt, N: len(m.names)}}
	for _, n := range clauses {
		c.L = append(c.L, m.takes(n))
	}
	table := slices.Repeat([]int{len(m.ops)}, len(clauses)+1)
	m.p.Tab = append(m.p.Tab, table)
	m.put(c)
	return table
}

// takes is a clause as it stands in a receive: without its body.
func (m *maker) takes(c api.Node) api.Node {
	defer m.give(len(m.names))
	pattern := m.slotted(c.L[0])
	c.L = []api.Node{pattern, m.slotted(c.L[1]), {K: api.NdNil}}
	return c
}

// taken is the body of a clause that took a message: its pattern's names are bound.
func (m *maker) taken(c api.Node, tail bool, end *int) {
	defer m.give(len(m.names))
	m.slotted(c.L[0])
	m.body(c.L[2:], tail, end)
}
