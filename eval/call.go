package eval

import "pleach/api"

// call is what a function that is there comes to.
func (r *run) call(f api.Fn, args []api.Term) (api.Term, error) {
	return r.deeper(func() (api.Term, error) {
		ahead := r.here
		r.here = scope{module: f.S}
		_, none := valueOf(failed("function_clause"))
		t, err := r.clauses(r.functions[f].L, args, none)
		r.here = ahead
		if err != nil {
			return api.Term{}, &inCall{f, err}
		}
		return t, nil
	})
}

func (r *run) local(n api.Node) (api.Term, error) {
	args, err := r.values(n.L)
	if err != nil {
		return api.Term{}, err
	}
	f := api.Fn{S: r.here.module, T: n.S, N: len(args)}
	if r.functions.has(f) {
		return r.call(f, args)
	}
	o, ok := Pure(n.S, args)
	if !ok {
		return api.Term{}, nothing(api.WhyPure)
	}
	return valueOf(o)
}

func (r *run) remote(n api.Node) (api.Term, error) {
	args, err := r.values(n.L)
	if err != nil {
		return api.Term{}, err
	}
	return r.call(api.Fn{S: n.S, T: n.T, N: len(args)}, args)
}

func (r *run) apply(n api.Node) (api.Term, error) {
	l, err := r.values(n.L)
	if err != nil {
		return api.Term{}, err
	}
	fun, args := l[0], l[1:]
	f := api.Fn{S: fun.S, T: fun.T, N: fun.N}
	if fun.K != api.KFun || fun.N != len(args) || !r.functions.has(f) {
		return valueOf(failedBy("badfun", fun))
	}
	return r.call(f, args)
}
