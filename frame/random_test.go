package frame

import (
	"math/rand"
	"slices"
	"testing"

	"pleach/api"
	"pleach/term"
)

// maker makes random stacks.
type maker struct{ *rand.Rand }

func pick[T any](m maker, l ...T) T { return l[m.Intn(len(l))] }

func (m maker) term() api.Term {
	return pick(m, num(m.Intn(99)), atom("a"), tuple(num(1), atom("b")), api.Term{K: api.KNil}, api.Term{K: -1})
}

func (m maker) terms(most int) []api.Term {
	var l []api.Term
	for range m.Intn(most + 1) {
		l = append(l, m.term())
	}
	return l
}

func (m maker) frame() api.Frame {
	if m.Intn(6) == 0 {
		return pick(m, everyMachine()...)
	}
	f := api.Frame{Fn: m.Intn(5), Pc: m.Intn(9), Slots: m.terms(3), Bound: make([]bool, m.Intn(4)), Stack: m.terms(6), Wait: m.Intn(9) - 2}
	for range m.Intn(3) * m.Intn(2) {
		f.Tries = append(f.Tries, api.Try{At: m.Intn(9), High: m.Intn(9) - 1})
	}
	f.M.Phase = int8(m.Intn(3))
	return f
}

func (m maker) stack() []api.Frame {
	var l []api.Frame
	for range m.Intn(8) {
		l = append(l, m.frame())
	}
	return l
}

// reading is what unwinding comes to, by a plain reading of the chapter: one frame at a time, from the top down.
func reading(l []api.Frame, class int8, x api.Term) left {
	if len(l) == 0 {
		return left{over: true}
	}
	below, top := l[:len(l)-1], l[len(l)-1]
	if top.Kind != api.FrCode {
		return left{rest: l, machine: true}
	}
	if len(top.Tries) == 0 {
		return reading(below, class, x)
	}
	keeps := 0
	for keeps < len(top.Stack) && keeps < top.Tries[len(top.Tries)-1].High {
		keeps++
	}
	return left{rest: put(below, taken(top, keeps, class, x))}
}

// P15.2, P15.3, P15.4: random stacks against the reading.
func TestRandom(t *testing.T) {
	m := maker{rand.New(rand.NewSource(15))}
	ways := map[[2]bool]int{}
	for range 20000 {
		l, class, x := m.stack(), int8(m.Intn(7)-2), m.term()
		got, want := unwound(l, class, x), reading(l, class, x)
		got.want(t, want.rest, want.machine, want.over)
		got = back(l, x)
		switch {
		case len(l) < 2:
			got.want(t, nil, false, true)
		case l[len(l)-2].Kind != api.FrCode:
			got.want(t, l[:len(l)-1], true, false)
		default:
			f := l[len(l)-2]
			f.Stack = put(f.Stack, x)
			got.want(t, put(l[:len(l)-2], f), false, false)
		}
		f := m.frame()
		if up, e := Push(l, f); e != api.OK || !same(up, put(l, f)) {
			t.Error(e, up)
		}
		if t.Failed() {
			t.Fatal(l)
		}
		ways[[2]bool{want.machine, want.over}]++
	}
	if len(ways) != 3 {
		t.Error(ways)
	}
}

// P15.1, P15.2, P15.3: frames that may be, whose handlers lie one above the other, stay so, whatever comes back to them or is raised, while there is room for it.
func TestStay(t *testing.T) {
	m := maker{rand.New(rand.NewSource(16))}
	p := prog()
	values := slices.DeleteFunc(goodTerms(), func(x api.Term) bool { return term.Size(x) > 9 })
	for range 3000 {
		var l []api.Frame
		for range 1 + m.Intn(6) {
			fn := m.Intn(len(base))
			f, e := Enter(p, fn, nums(1, base[fn].n))
			for range m.Intn(4) {
				f.Stack = append(f.Stack, pick(m, values...))
			}
			for high := range len(f.Stack) + 1 {
				for range m.Intn(3) {
					f.Tries = append(f.Tries, api.Try{At: m.Intn(many), High: high})
				}
			}
			if e != api.OK || Check(p, f) != api.OK {
				t.Fatal(e, f)
			}
			l, _ = Push(l, f)
		}
		for len(l) > 0 {
			if m.Intn(3) == 0 {
				l, _, _ = Back(l, pick(m, values...))
			} else {
				l, _, _ = Unwind(l, int8(m.Intn(4)), pick(m, values...))
			}
			for _, f := range l {
				if e := Check(p, f); e != api.OK {
					t.Fatal(e, f)
				}
			}
		}
	}
}
