package eval

import (
	"slices"

	"pleach/api"
	"pleach/guard"
	"pleach/match"
	"pleach/rules"
	"pleach/term"
)

const (
	most  = 1 << 16             // steps that may be handed in
	kinds = int(api.NdRecv) + 1 // of nodes; those of expressions are the last ones
)

// leaves are the kinds of the terms that a node without parts is.
var leaves = [...]int8{
	api.NdInt:  api.KInt,
	api.NdAtom: api.KAtom,
	api.NdNil:  api.KNil,
	api.NdRef:  api.KFun,
}

// functions are a tree's, by what they are called.
type functions map[api.Fn]api.Node

// scope is the module whose code is run, and the names that are bound in it.
type scope struct {
	module string
	names  []api.Bind
}

// run is an evaluation.
type run struct {
	functions functions
	kinds     [kinds]func(n api.Node) (api.Term, error)
	deeper    func(call func() (api.Term, error)) (api.Term, error)
	here      scope
	left      int // steps
}

// newRun is an evaluation that has not begun (false: the tree, or so many steps, may not be handed in).
func newRun(n api.Node, steps int) (*run, bool) {
	if _, e := rules.Check(n); e != api.OK || steps < 0 || steps > most {
		return nil, false
	}
	r := &run{functions: functionsOf(n), deeper: counted(api.MaxStack - 1), left: steps}
	r.kinds = [kinds]func(n api.Node) (api.Term, error){
		api.NdVar:    r.variable,
		api.NdInt:    r.leaf,
		api.NdAtom:   r.leaf,
		api.NdNil:    r.leaf,
		api.NdRef:    r.leaf,
		api.NdCons:   r.cons,
		api.NdTuple:  r.tuple,
		api.NdOp:     r.op,
		api.NdMatch:  r.match,
		api.NdCall:   r.local,
		api.NdRemote: r.remote,
		api.NdApply:  r.apply,
		api.NdCase:   r.choice,
		api.NdTry:    r.try,
		api.NdRecv:   r.receive,
	}
	return r, true
}

func functionsOf(n api.Node) functions {
	all := functions{}
	for _, m := range n.L {
		for _, f := range m.L {
			all[api.Fn{S: m.S, T: f.S, N: f.N}] = f
		}
	}
	return all
}

func (f functions) has(name api.Fn) bool {
	_, ok := f[name]
	return ok
}

// counted lets so many calls stand in one another.
func counted(many int) func(call func() (api.Term, error)) (api.Term, error) {
	deep := 0
	return func(call func() (api.Term, error)) (api.Term, error) {
		if deep == many {
			return api.Term{}, nothing(api.WhyDeep)
		}
		deep++
		defer func() { deep-- }()
		return call()
	}
}

// value is what an expression comes to, a fault where it comes to no value.
func (r *run) value(n api.Node) (api.Term, error) {
	if r.left == 0 {
		return api.Term{}, nothing(api.WhyFuel)
	}
	r.left--
	return r.kinds[n.K](n)
}

func (r *run) values(l []api.Node) ([]api.Term, error) {
	var out []api.Term
	for _, n := range l {
		t, err := r.value(n)
		if err != nil {
			return nil, err
		}
		out = append(out, t)
	}
	return out, nil
}

func (r *run) variable(n api.Node) (api.Term, error) {
	// That it is bound was seen ahead: by the rules, or where the expression was handed in.
	t, _ := guard.Find(r.here.names, n.S)
	return t, nil
}

func (r *run) leaf(n api.Node) (api.Term, error) {
	return api.Term{K: leaves[n.K], N: n.N, S: n.S, T: n.T}, nil
}

func (r *run) cons(n api.Node) (api.Term, error) {
	l, err := r.values(n.L)
	if err != nil {
		return api.Term{}, err
	}
	return fit(term.Cons(l[0], l[1]))
}

func (r *run) tuple(n api.Node) (api.Term, error) {
	l, err := r.values(n.L)
	if err != nil {
		return api.Term{}, err
	}
	return fit(term.Tuple(l))
}

// fit is a term of parts that may be, unless it is too great.
func fit(t api.Term, e api.Errno) (api.Term, error) {
	if e != api.OK {
		return valueOf(failed("system_limit"))
	}
	return t, nil
}

func (r *run) op(n api.Node) (api.Term, error) {
	l, err := r.values(n.L)
	if err != nil {
		return api.Term{}, err
	}
	return valueOf(Arith(n.S, l[0], l[1]))
}

func (r *run) match(n api.Node) (api.Term, error) {
	t, err := r.value(n.L[1])
	if err != nil {
		return api.Term{}, err
	}
	names, ok := r.here.with(n.L[:1], []api.Term{t})
	if !ok {
		return valueOf(failedBy("badmatch", t))
	}
	r.here.names = names
	return t, nil
}

// with is the names of here, and behind them those that patterns bind.
func (s scope) with(p []api.Node, t []api.Term) ([]api.Bind, bool) {
	// An expression that is handed in may bind more names than match takes. Patterns match under names just if they match without, and say the same of each.
	l, ok, _ := match.All(p, t, nil)
	// No room behind the names: what is put there moves them to new memory.
	names := slices.Clip(s.names)
	for _, b := range l {
		same, bound := guard.Find(s.names, b.S)
		switch {
		case !bound:
			names = append(names, b)
		case term.Compare(same, b.T) != 0:
			return nil, false
		}
	}
	return names, ok
}

// clauses is what the first one comes to that goes, each under the names of here; none, if none goes.
func (r *run) clauses(l []api.Node, t []api.Term, none error) (api.Term, error) {
	for _, c := range l {
		names, ok := r.here.with(c.L[:c.N], t)
		if ok && guard.Holds(c.L[c.N], names) {
			return r.body(c.L[c.N+1:], names)
		}
	}
	return api.Term{}, none
}

// body is what the last one of expressions comes to; the names are theirs alone.
func (r *run) body(l []api.Node, names []api.Bind) (api.Term, error) {
	ahead := r.here.names
	r.here.names = names
	values, err := r.values(l)
	r.here.names = ahead
	if err != nil {
		return api.Term{}, err
	}
	return values[len(values)-1], nil
}

func (r *run) choice(n api.Node) (api.Term, error) {
	ahead := r.here.names
	t, err := r.value(n.L[0])
	if err == nil {
		_, none := valueOf(failedBy("case_clause", t))
		t, err = r.clauses(n.L[1:], []api.Term{t}, none)
	}
	r.here.names = ahead
	return t, err
}

func (r *run) try(n api.Node) (api.Term, error) {
	t, err := r.body(n.L[:1], r.here.names)
	o, ok := raised(err)
	if !ok {
		return t, err
	}
	return r.clauses(n.L[1:], []api.Term{atom(classes[o.Class]), o.T}, err)
}

func (r *run) receive(api.Node) (api.Term, error) { return api.Term{}, nothing(api.WhyPure) }
