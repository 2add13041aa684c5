package frame

import (
	"math"
	"testing"

	"pleach/api"
)

// own is a frame whose rows hold themselves, as far as rows can.
func own() api.Frame {
	x := tuple(num(1), num(2))
	x.L[0], x.L[1] = x, x
	sup := api.Sup{Children: make([]api.Child, 1)}
	sup.Children[0].Sup = []api.Sup{sup}
	return api.Frame{Slots: []api.Term{x}, Bound: []bool{true}, Stack: []api.Term{x, x}, Tries: []api.Try{{High: 1}}, M: api.Machine{T: x, Spec: sup, Recs: []api.Record{{C: sup.Children[0]}}}}
}

// wrongFrames are some that nothing makes.
func wrongFrames() []api.Frame {
	l := []api.Frame{{}, own(), {Kind: -1}, {Kind: 127}, {Fn: math.MinInt, Pc: math.MaxInt, Wait: math.MinInt}}
	for _, n := range []int{math.MinInt, -1 << 32, -1, 0, 1, 1 << 32, math.MaxInt} {
		for _, many := range []int{0, 1, 3, 600} {
			l = append(l, api.Frame{Fn: n, Pc: n, Wait: n, Slots: nums(n, many), Bound: make([]bool, many/2), Stack: nums(n, many), Tries: []api.Try{{At: n, High: n}}})
		}
	}
	return append(l, api.Frame{Slots: badTerms(), Stack: badTerms(), Bound: []bool{}, Tries: make([]api.Try, 999)})
}

// R1: nothing goes wrong with frames that nothing makes, wherever they lie: there are as many as there are to be.
func TestWrongFrames(t *testing.T) {
	codes := []api.Prog{{}, prog(), {Fns: prog().Fns}, {Ops: prog().Ops}, {Fns: make([]api.Fn, 3), Ops: make([]api.Code, 3), Tab: [][]int{{-1}}}, {Fns: []api.Fn{{N: -1, At: -1, Slots: -1}, {N: math.MaxInt, At: math.MaxInt, Slots: math.MaxInt}}}}
	for i, f := range wrongFrames() {
		for _, p := range codes {
			if e := Check(p, f); e != api.ErrArg && (e != api.OK || f.Kind == -1 || f.Kind == 127) {
				t.Error(i, e)
			}
			for _, fn := range []int{math.MinInt, -1, 0, 1, math.MaxInt} {
				if g, e := Enter(p, fn, f.Slots); e != api.OK && !same(g, api.Frame{}) {
					t.Error(i, fn, e)
				}
			}
		}
		for _, g := range wrongFrames() {
			l, e := Push([]api.Frame{f}, g)
			if e != api.OK || len(l) != 2 {
				t.Error(i, e, len(l))
			}
			rest, machine, over := Back(l, num(1))
			if len(rest) != 1 || machine != (f.Kind != 0) || over || len(rest[0].Stack) != len(f.Stack)+map[bool]int{true: 0, false: 1}[machine] {
				t.Error(i, len(rest), machine, over)
			}
			rest, machine, over = Unwind(l, -9, num(1))
			if over != (len(rest) == 0) || machine && rest[len(rest)-1].Kind == 0 {
				t.Error(i, len(rest), machine, over)
			}
		}
	}
}

// R1: a term that holds itself goes by as it is.
func TestOwnTerms(t *testing.T) {
	f := own()
	x := f.Slots[0]
	if rest, _, over := Unwind([]api.Frame{f, {}}, api.ClError, x); over || len(rest) != 1 || len(rest[0].Stack) != 3 {
		t.Error(len(rest), over)
	}
	if rest, _, over := Back([]api.Frame{f, {}}, x); over || len(rest) != 1 || len(rest[0].Stack) != 3 {
		t.Error(len(rest), over)
	}
	if e := Check(prog(), f); e != api.ErrArg {
		t.Error(e)
	}
}

// R1: stacks of very many frames, and of a great row.
func TestGreat(t *testing.T) {
	l := make([]api.Frame, 1<<16)
	if rest, machine, over := Unwind(l, api.ClError, num(1)); rest != nil || machine || !over {
		t.Error(len(rest), machine, over)
	}
	if rest, machine, over := Back(l, num(1)); len(rest) != 1<<16-1 || machine || over {
		t.Error(len(rest), machine, over)
	}
	if rest, e := Push(l, api.Frame{}); rest != nil || e != api.ErrLimit {
		t.Error(len(rest), e)
	}
	l[0] = api.Frame{Stack: make([]api.Term, 1<<16), Tries: make([]api.Try, 1<<16)}
	l[0].Tries[1<<16-1].High = 1 << 15
	rest, machine, over := Unwind(l, api.ClError, num(1))
	if len(rest) != 1 || machine || over || len(rest[0].Stack) != 1<<15+2 || len(rest[0].Tries) != 1<<16-1 {
		t.Error(len(rest), machine, over)
	}
}
