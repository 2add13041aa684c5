package ast

import (
	"strconv"
	"strings"

	"pleach/api"
)

// writer writes the text of a tree that may be.
type writer struct {
	strings.Builder
	forms [kinds]func(n api.Node)
}

// written is the text of a tree that may be.
func written(n api.Node) string {
	w := &writer{}
	w.forms = [kinds]func(n api.Node){
		api.NdMods:   func(n api.Node) { w.list(n.L, "") },
		api.NdMod:    w.module,
		api.NdFun:    w.function,
		api.NdClause: w.alternative,
		api.NdGuard:  w.guard,
		api.NdVar:    w.name,
		api.NdInt:    func(n api.Node) { w.put(strconv.Itoa(n.N)) },
		api.NdAtom:   w.name,
		api.NdNil:    func(api.Node) { w.put("[]") },
		api.NdCons:   func(n api.Node) { w.between("[", n.L, "|", "]") },
		api.NdTuple:  func(n api.Node) { w.between("{", n.L, ", ", "}") },
		api.NdOp:     func(n api.Node) { w.between("(", n.L, " "+n.S+" ", ")") },
		api.NdTest:   w.call,
		api.NdMatch:  func(n api.Node) { w.between("(", n.L, " = ", ")") },
		api.NdCall:   w.call,
		api.NdRemote: w.remote,
		api.NdApply:  w.apply,
		api.NdRef:    func(n api.Node) { w.put("fun ", n.S, ":", n.T, "/", strconv.Itoa(n.N)) },
		api.NdCase:   func(n api.Node) { w.choice("case ", n, " of ") },
		api.NdTry:    func(n api.Node) { w.choice("try ", n, " catch ") },
		api.NdRecv:   w.receive,
		api.NdAfter:  w.after,
	}
	w.node(n)
	return w.String()
}

func (w *writer) node(n api.Node) { w.forms[n.K](n) }

func (w *writer) put(l ...string) {
	for _, s := range l {
		w.WriteString(s)
	}
}

// each writes those nodes in such a way, with that text between.
func (w *writer) each(l []api.Node, between string, write func(n api.Node)) {
	for i, n := range l {
		if i > 0 {
			w.put(between)
		}
		write(n)
	}
}

func (w *writer) list(l []api.Node, between string) { w.each(l, between, w.node) }

func (w *writer) between(first string, l []api.Node, between, last string) {
	w.put(first)
	w.list(l, between)
	w.put(last)
}

func (w *writer) arguments(l []api.Node) { w.between("(", l, ", ", ")") }

func (w *writer) name(n api.Node) { w.put(n.S) }

func (w *writer) module(n api.Node) {
	w.put("module ", n.S, ".\n")
	w.list(n.L, "")
}

func (w *writer) function(n api.Node) {
	w.each(n.L, ";\n", func(c api.Node) {
		w.put(n.S)
		w.arguments(c.L[:c.N])
		w.body(c)
	})
	w.put(".\n")
}

// alternative writes a clause of a case, a receive or a try; of a try alone it has two patterns.
func (w *writer) alternative(c api.Node) {
	w.list(c.L[:c.N], ":")
	w.body(c)
}

// body writes what stands behind a clause's patterns.
func (w *writer) body(c api.Node) {
	w.node(c.L[c.N])
	w.put(" -> ")
	w.list(c.L[c.N+1:], ", ")
}

func (w *writer) guard(n api.Node) {
	if len(n.L) > 0 {
		w.put(" when ")
		w.list(n.L, ", ")
	}
}

func (w *writer) call(n api.Node) {
	w.put(n.S)
	w.arguments(n.L)
}

func (w *writer) remote(n api.Node) {
	w.put(n.S, ":", n.T)
	w.arguments(n.L)
}

func (w *writer) apply(n api.Node) {
	w.node(n.L[0])
	w.arguments(n.L[1:])
}

func (w *writer) choice(first string, n api.Node, behind string) {
	w.put(first)
	w.node(n.L[0])
	w.put(behind)
	w.list(n.L[1:], "; ")
	w.put(" end")
}

func (w *writer) receive(n api.Node) {
	clauses := len(n.L) - n.N
	w.put("receive")
	if clauses > 0 {
		w.put(" ")
		w.list(n.L[:clauses], "; ")
	}
	w.list(n.L[clauses:], "")
	w.put(" end")
}

func (w *writer) after(n api.Node) {
	w.put(" after ")
	w.node(n.L[0])
	w.put(" -> ")
	w.list(n.L[1:], ", ")
}
