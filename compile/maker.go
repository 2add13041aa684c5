package compile

import (
	"slices"

	"pleach/api"
	"pleach/code"
	"pleach/rules"
)

const kinds = int(api.NdRecv) + 1 // of nodes; those of expressions are the last ones

// instruction is one, with where it leads to, if it leads anywhere: that may be known behind it alone.
type instruction struct {
	api.Code
	to *int
}

// maker makes the code of a tree.
type maker struct {
	kinds [kinds]func(n api.Node, tail bool)
	p     api.Prog // but for its instructions
	ops   []instruction
	fn    *api.Fn  // the function that is made
	names []string // one for each slot that is taken: what is bound to it, if it is a name's
}

// made is the code of a tree that is let be, whatever its sizes.
func made(n api.Node) api.Prog {
	m := newMaker(n)
	for at, f := range functions(n) {
		m.fn = &m.p.Fns[at]
		m.function(f)
	}
	p := m.p
	p.Ops = slices.Grow(p.Ops, len(m.ops))
	for _, c := range m.ops {
		if c.to != nil {
			c.A = *c.to
		}
		p.Ops = append(p.Ops, c.Code)
	}
	return p
}

func newMaker(n api.Node) *maker {
	m := &maker{p: api.Prog{Fns: rules.Functions(n)}}
	m.kinds = [kinds]func(n api.Node, tail bool){
		api.NdVar:    m.variable,
		api.NdInt:    m.leaf,
		api.NdAtom:   m.leaf,
		api.NdNil:    m.leaf,
		api.NdRef:    m.leaf,
		api.NdCons:   m.cons,
		api.NdTuple:  m.tuple,
		api.NdOp:     m.op,
		api.NdMatch:  m.match,
		api.NdCall:   m.local,
		api.NdRemote: m.remote,
		api.NdApply:  m.apply,
		api.NdCase:   m.choice,
		api.NdTry:    m.try,
		api.NdRecv:   m.receive,
	}
	return m
}

// put puts instructions behind.
func (m *maker) put(l ...api.Code) {
	for _, c := range l {
		m.ops = append(m.ops, instruction{Code: c})
	}
}

// lead puts an instruction behind that leads to a place.
func (m *maker) lead(c api.Code, to *int) {
	m.ops = append(m.ops, instruction{c, to})
}

// later is a place that is not known yet, and what fills it in where it is come to.
func (m *maker) later() (to *int, come func()) {
	to = new(int)
	return to, func() { *to = len(m.ops) }
}

// take takes a slot, for a name or for none.
func (m *maker) take(name string) int {
	m.names = append(m.names, name)
	m.fn.Slots = max(m.fn.Slots, len(m.names))
	return len(m.names) - 1
}

// give gives back all slots but so many.
func (m *maker) give(but int) { m.names = m.names[:but] }

// slot is that of a name; one that is not bound takes the next one.
func (m *maker) slot(name string) int {
	if at := slices.Index(m.names, name); at >= 0 {
		return at
	}
	return m.take(name)
}

// slotted is a pattern or a guard with slots' names.
func (m *maker) slotted(n api.Node) api.Node {
	if n.K == api.NdVar && n.S != "_" {
		n.S = code.Name(m.slot(n.S))
	}
	var l []api.Node
	for _, x := range n.L {
		l = append(l, m.slotted(x))
	}
	n.L = l
	return n
}

// store pops the top into a slot that is taken for it.
func (m *maker) store() int {
	s := m.take("")
	m.put(api.Code{Op: api.OpStore, A: s})
	return s
}

func (m *maker) load(slot int) { m.put(api.Code{Op: api.OpLoad, A: slot}) }

// against goes on if the top matches a pattern; else it leads to that place, where the top is still there.
func (m *maker) against(p api.Node, lost *int) {
	// How many slots were taken ahead of the pattern.
	taken := len(m.names)
	m.lead(api.Code{Op: api.OpMatch, B: taken, P: m.slotted(p)}, lost)
}

// fail raises an exception of an atom, with so many values.
func (m *maker) fail(s string, values int) {
	m.put(api.Code{Op: api.OpFail, T: atom(s), B: values})
}

// back goes back with the top, in tail position.
func (m *maker) back(tail bool) {
	if tail {
		m.put(api.Code{Op: api.OpRet})
	}
}

// leave goes to the end; in tail position nothing is to be done there, so all went back already.
func (m *maker) leave(tail bool, end *int) {
	if !tail {
		m.lead(api.Code{Op: api.OpJump}, end)
	}
}

func atom(s string) api.Term { return api.Term{K: api.KAtom, S: s} }
