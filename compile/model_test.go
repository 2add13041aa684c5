package compile

import (
	"fmt"
	"maps"
	"regexp"
	"strconv"
	"strings"

	"pleach/api"
	"pleach/rules"
	"pleach/term"
)

// here is what is taken and bound at a place: s slots, and the slots of names.
type here struct {
	s     int
	bound map[string]int
}

func (h here) with(name string) here {
	h.bound = maps.Clone(h.bound)
	h.bound[name] = h.s
	h.s++
	return h
}

// reading is the code of a tree by a plain reading of the chapter: lines in which places are told by labels such as <7>, till all are known.
type reading struct {
	lines  []string
	at     map[string]int
	fns    []api.Fn
	fn     int // the function that is read
	tables int
	wide   bool
}

func read(n api.Node) *reading {
	r := &reading{at: map[string]int{}, fns: rules.Functions(n)}
	for _, m := range n.L {
		for _, f := range m.L {
			r.function(f)
			r.fn++
		}
	}
	for i, s := range r.lines {
		r.lines[i] = label.ReplaceAllStringFunc(s, func(l string) string { return strconv.Itoa(r.at[l]) })
	}
	return r
}

func (r *reading) put(words ...any) {
	var l []string
	for _, w := range words {
		l = append(l, fmt.Sprint(w))
	}
	r.lines = append(r.lines, strings.Join(l, " "))
}

func (r *reading) label() string {
	s := fmt.Sprintf("<%d>", len(r.at))
	r.at[s] = -1
	return s
}

func (r *reading) stand(label string) { r.at[label] = len(r.lines) }

// taken notes how many slots are taken at a place.
func (r *reading) taken(h here) here {
	r.fns[r.fn].Slots = max(r.fns[r.fn].Slots, h.s)
	return h
}

func (r *reading) function(f api.Node) {
	r.fns[r.fn].At = len(r.lines)
	h := r.taken(here{s: f.N, bound: map[string]int{}})
	for _, c := range f.L {
		m, l := r.label(), r.label()
		in := h
		for i := range f.N {
			r.put("load", i)
			in = r.matching(c.L[i], m, in)
		}
		r.guard(c.L[f.N], l, in)
		r.body(c.L[f.N+1:], true, in)
		r.stand(m)
		if f.N > 0 {
			r.put("pop")
		}
		r.stand(l)
	}
	r.put("fail 0 function_clause")
}

// names are those in the text of a tree, of atoms and of variables; a label is such as <7>.
var (
	names = regexp.MustCompile(`[A-Za-z_][A-Za-z0-9_@]*`)
	label = regexp.MustCompile(`<\d+>`)
)

// slots is the text of a tree with slots' names for those that are bound.
func slots(text string, h here) string {
	return names.ReplaceAllStringFunc(text, func(s string) string {
		if at, ok := h.bound[s]; ok {
			return fmt.Sprintf("V%d", at)
		}
		return s
	})
}

// binds is what is bound behind a pattern.
func (r *reading) binds(p api.Node, h here) here {
	for _, s := range names.FindAllString(patternText(p), -1) {
		if _, ok := h.bound[s]; !ok && (s[0] == '_' || s[0] <= 'Z') && s != "_" {
			h = h.with(s)
		}
	}
	return r.taken(h)
}

func (r *reading) matching(p api.Node, l string, h here) here {
	behind := r.binds(p, h)
	r.put("match", l, h.s, slots(patternText(p), behind))
	return behind
}

func (r *reading) guard(n api.Node, l string, h here) {
	if len(n.L) > 0 {
		r.put("guard", l, slots(guardText(n), h))
	}
}

func (r *reading) body(l []api.Node, tail bool, h here) {
	for i, e := range l {
		if i > 0 {
			r.put("pop")
		}
		h = r.expr(e, tail && i == len(l)-1, h)
	}
}

// inTail is a body that is in tail position, or one behind which a jump goes to the end.
func (r *reading) inTail(l []api.Node, tail bool, end string, h here) {
	r.body(l, tail, h)
	if !tail {
		r.put("jump", end)
	}
}

func (r *reading) exprs(l []api.Node, h here) here {
	for _, e := range l {
		h = r.expr(e, false, h)
	}
	return h
}

func (r *reading) expr(n api.Node, tail bool, h here) here {
	switch n.K {
	case api.NdCase:
		r.choice(n, tail, h)
		return h
	case api.NdTry:
		r.try(n, tail, h)
		return h
	case api.NdRecv:
		r.receive(n, tail, h)
		return h
	}
	behind, gone := r.plain(n, tail, h)
	if tail && !gone {
		r.put("ret")
	}
	return behind
}

// plain is an expression of another kind; gone: no ret stands behind it.
func (r *reading) plain(n api.Node, tail bool, h here) (behind here, gone bool) {
	if n.K != api.NdMatch {
		h = r.exprs(n.L, h)
	}
	switch n.K {
	case api.NdVar:
		r.put("load", h.bound[n.S])
	case api.NdInt:
		r.put("const", n.N)
	case api.NdAtom:
		r.put("const", n.S)
	case api.NdNil:
		r.put("const []")
	case api.NdRef:
		r.put("const", term.Text(api.Term{K: api.KFun, S: n.S, T: n.T, N: n.N}))
	case api.NdTuple:
		r.put("tuple", len(n.L))
		r.wide = r.wide || len(n.L) > 256
	case api.NdCons:
		r.put("cons")
	case api.NdOp:
		r.put("arith", n.S)
	case api.NdApply:
		r.put("apply", len(n.L)-1)
	case api.NdMatch:
		return r.match(n, h), false
	case api.NdCall:
		if rules.Built(n.S, len(n.L)) {
			r.put("built", n.S, len(n.L))
			return h, false
		}
		n.S, n.T = r.fns[r.fn].S, n.S
		fallthrough
	case api.NdRemote:
		word := "call"
		if tail {
			word = "tail"
		}
		r.put(word, fmt.Sprintf("%s:%s/%d", n.S, n.T, len(n.L)))
		return h, tail
	}
	return h, false
}

func (r *reading) match(n api.Node, h here) here {
	l, m := r.label(), r.label()
	h = r.expr(n.L[1], false, h)
	r.put("store", h.s)
	r.put("load", h.s)
	s := h.s
	h.s++
	behind := r.matching(n.L[0], l, h)
	r.put("load", s)
	r.put("jump", m)
	r.stand(l)
	r.put("fail 1 badmatch")
	r.stand(m)
	return behind
}

func (r *reading) choice(n api.Node, tail bool, h here) {
	end := r.label()
	h = r.expr(n.L[0], false, h)
	s := h.s
	r.put("store", s)
	h.s++
	r.taken(h)
	for _, c := range n.L[1:] {
		m, l := r.label(), r.label()
		r.put("load", s)
		in := r.matching(c.L[0], m, h)
		r.guard(c.L[1], l, in)
		r.inTail(c.L[2:], tail, end, in)
		r.stand(m)
		r.put("pop")
		r.stand(l)
	}
	r.put("load", s)
	r.put("fail 1 case_clause")
	r.stand(end)
}

func (r *reading) try(n api.Node, tail bool, h here) {
	end, k := r.label(), r.label()
	r.put("try", k)
	r.expr(n.L[0], false, h)
	r.put("end")
	if tail {
		r.put("ret")
	} else {
		r.put("jump", end)
	}
	r.stand(k)
	s := h.s
	r.put("store", s+1)
	r.put("store", s)
	h.s += 2
	r.taken(h)
	for _, c := range n.L[1:] {
		m, l := r.label(), r.label()
		r.put("load", s)
		in := r.matching(c.L[0], m, h)
		r.put("load", s+1)
		in = r.matching(c.L[1], m, in)
		r.guard(c.L[2], l, in)
		r.inTail(c.L[3:], tail, end, in)
		r.stand(m)
		r.put("pop")
		r.stand(l)
	}
	r.put("load", s)
	r.put("load", s+1)
	r.put("fail 2 raise")
	r.stand(end)
}

func (r *reading) receive(n api.Node, tail bool, h here) {
	end := r.label()
	clauses, timed := n.L, h
	if n.N == 1 {
		clauses = n.L[:len(n.L)-1]
		timed = r.expr(n.L[len(n.L)-1].L[0], false, h)
		r.put("wait")
	}
	// The clauses know the names from ahead alone.
	h.s = timed.s
	var places, texts []string
	for _, c := range clauses {
		in := r.binds(c.L[0], h)
		s := slots(patternText(c.L[0]), in)
		if len(c.L[1].L) > 0 {
			s += " when " + slots(guardText(c.L[1]), in)
		}
		texts = append(texts, s+" -> []")
		places = append(places, r.label())
	}
	places = append(places, r.label())
	r.stand(places[len(clauses)])
	r.put(strings.TrimSpace(fmt.Sprintf("recv %d %d %d [%s] %s", n.N, r.tables, h.s, strings.Join(places, " "), strings.Join(texts, "; "))))
	r.tables++
	for i, c := range clauses {
		r.stand(places[i])
		r.inTail(c.L[2:], tail, end, r.binds(c.L[0], h))
	}
	if n.N == 1 {
		r.stand(places[len(clauses)])
		r.inTail(n.L[len(n.L)-1].L[1:], tail, end, timed)
	}
	r.stand(end)
}
