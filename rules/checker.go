package rules

import (
	"errors"

	"pleach/api"
	"pleach/ast"
)

// checker holds the rules against a tree that may be.
type checker struct {
	nodes     layout
	functions map[api.Fn]struct{}
	faults    []error // against the rules of names and of slots, as the clauses are gone over
}

// refusal is why a tree is refused, if it is.
func refusal(n api.Node) error {
	if ast.Check(n) != api.OK {
		return refused(api.ErrTree, 0)
	}
	for _, rule := range newChecker(n).rules() {
		if err := rule(); err != nil {
			return err
		}
	}
	return nil
}

// refused wraps a number with the place at which a rule is broken.
func refused(e api.Errno, at int) error {
	return &api.Refused{Layer: layer, E: e, At: at}
}

func newChecker(n api.Node) *checker {
	c := &checker{nodes: laid(n), functions: map[api.Fn]struct{}{}}
	for _, f := range Functions(n) {
		c.functions[f] = struct{}{}
	}
	for at, n := range c.nodes {
		if n.K != api.NdFun {
			continue
		}
		for clause := range c.nodes.parts(at) {
			c.faults = append(c.faults, walked(c.nodes, clause).faults...)
		}
	}
	return c
}

// rules are all of them, in their order.
func (c *checker) rules() []func() error {
	return []func() error{c.modulesOnce, c.functionsOnce, c.namesBound, c.functionsThere, c.slotsEnough}
}

func (c *checker) modulesOnce() error { return c.once(0) }

func (c *checker) functionsOnce() error {
	for module := range c.nodes.parts(0) {
		if err := c.once(module); err != nil {
			return err
		}
	}
	return nil
}

// once holds that no two parts of a node are of one name and arity; a module's arity is 0.
func (c *checker) once(at int) error {
	seen := map[api.Fn]struct{}{}
	for p := range c.nodes.parts(at) {
		f := api.Fn{S: c.nodes[p].S, N: c.nodes[p].N}
		if _, ok := seen[f]; ok {
			return refused(api.ErrTwice, p)
		}
		seen[f] = struct{}{}
	}
	return nil
}

// namesBound tells the first name that is not bound: names are told in the order of their places, for only patterns are gone over out of it.
func (c *checker) namesBound() error { return c.first(api.ErrBind) }

func (c *checker) slotsEnough() error { return c.first(api.ErrLimit) }

// first is the first fault of that number.
func (c *checker) first(e api.Errno) error {
	for _, err := range c.faults {
		if errors.Is(err, e) {
			return err
		}
	}
	return nil
}

func (c *checker) functionsThere() error {
	module := ""
	for at, n := range c.nodes {
		e := api.OK
		switch n.K {
		case api.NdMod:
			module = n.S
		case api.NdFun:
			if Built(n.S, n.N) {
				e = api.ErrTwice
			}
		case api.NdCall:
			if !Built(n.S, len(n.L)) {
				e = c.there(module, n.S, len(n.L))
			}
		case api.NdRemote:
			e = c.there(n.S, n.T, len(n.L))
		case api.NdRef:
			e = c.there(n.S, n.T, n.N)
		}
		if e != api.OK {
			return refused(e, at)
		}
	}
	return nil
}

// there is ErrCall, unless there is such a function.
func (c *checker) there(module, name string, arity int) api.Errno {
	if _, ok := c.functions[api.Fn{S: module, T: name, N: arity}]; !ok {
		return api.ErrCall
	}
	return api.OK
}
