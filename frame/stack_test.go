package frame

import (
	"math"
	"slices"
	"testing"

	"pleach/api"
)

// plain is a code frame without a handler; so many tell its frames from one another.
func plain(n int) api.Frame {
	return api.Frame{Fn: n, Pc: n + 1, Slots: nums(n, 2), Bound: []bool{true, false}, Stack: nums(n+10, n%4), Wait: n - 2}
}

// trying is a code frame with handlers.
func trying(n int, l ...api.Try) api.Frame {
	f := plain(n)
	f.Stack, f.Tries = nums(n+10, 4), l
	return f
}

// machine is a frame of a kind of machines, with something in each of its fields.
func machine(kind int8, n int) api.Frame {
	c := api.Child{Id: num(n), M: "m", F: "f", Args: nums(n, 2), Sup: []api.Sup{{MaxR: n}}}
	return api.Frame{Kind: kind, Fn: n, Pc: n, Slots: nums(n, 1), Bound: []bool{true}, Stack: nums(n, 3), Tries: []api.Try{{At: n, High: 1}}, Wait: n, M: api.Machine{
		Phase: 3, Pid: n, Ref: n + 1, At: n + 2, N: n + 3, T: num(n), U: tuple(num(n)), V: atom("v"),
		Recs: []api.Record{{C: c, Pid: n}, {C: c}}, Spec: api.Sup{Strategy: 1, MaxR: n, MaxT: n, Children: []api.Child{c}}, Log: []int{n, n + 1}, Todo: []int{n},
	}}
}

// kindsOfMachines are those that there are, and some that there are not: what is no code frame is a machine's.
var kindsOfMachines = [...]int8{api.FrGen, api.FrServer, api.FrStop, api.FrStart, api.FrSuper, 6, 127, -1, -128}

// everyMachine is of each of them a full frame and an empty one.
func everyMachine() []api.Frame {
	var l []api.Frame
	for _, k := range kindsOfMachines {
		l = append(l, machine(k, 4), api.Frame{Kind: k})
	}
	return l
}

// rows are stacks without a machine's frame and a handler, of no, one, some, as many as may be and more frames.
func rows() [][]api.Frame {
	var out [][]api.Frame
	for _, n := range []int{0, 1, 2, 3, 63, 64, 65, 100} {
		var l []api.Frame
		for i := range n {
			l = append(l, plain(i))
		}
		out = append(out, l)
	}
	return out
}

// put is what a row and more behind it come to, in new memory.
func put[T any](l []T, more ...T) []T { return slices.Concat(l, more) }

// left is what is left of a stack.
type left struct {
	rest          []api.Frame
	machine, over bool
}

func (x left) want(t *testing.T, rest []api.Frame, machine, over bool) {
	t.Helper()
	if !same(x.rest, rest) || x.machine != machine || x.over != over {
		t.Errorf("%d frames, %v, %v: %v\nwanted %d, %v, %v: %v", len(x.rest), x.machine, x.over, x.rest, len(rest), machine, over, rest)
	}
}

func unwound(l []api.Frame, class int8, x api.Term) left {
	rest, machine, over := Unwind(l, class, x)
	return left{rest, machine, over}
}

func back(l []api.Frame, x api.Term) left {
	rest, machine, over := Back(l, x)
	return left{rest, machine, over}
}

// P15.2: onto none, onto some, onto as many as may be and onto more.
func TestPush(t *testing.T) {
	for _, l := range rows() {
		for _, f := range []api.Frame{{}, plain(7), trying(8, api.Try{At: 1}), machine(api.FrGen, 9), {Kind: -1, Fn: -1}} {
			got, e := Push(l, f)
			if len(l) < 64 && (e != api.OK || !same(got, put(l, f))) {
				t.Errorf("%d frames: %v, %v", len(l), e, got)
			}
			if len(l) >= 64 && (e != api.ErrLimit || got != nil) {
				t.Errorf("%d frames: %v, %v", len(l), e, got)
			}
		}
	}
	got, e := Push([]api.Frame{}, plain(1))
	if e != api.OK || !same(got, []api.Frame{plain(1)}) {
		t.Error(e, got)
	}
}

// P15.2: frame by frame, up to the limit and back to nothing.
func TestPushBack(t *testing.T) {
	var l []api.Frame
	for n := range api.MaxStack {
		next, e := Push(l, plain(n))
		if e != api.OK || len(next) != n+1 {
			t.Fatal(n, e)
		}
		l = next
	}
	if l, e := Push(l, plain(64)); e != api.ErrLimit || l != nil {
		t.Error(e, l)
	}
	for n := api.MaxStack - 1; n > 0; n-- {
		x := back(l, num(n))
		f := plain(n - 1)
		if n < api.MaxStack-1 {
			// The value of the frame above it went with it.
			f = l[n-1]
		}
		f.Stack = put(f.Stack, num(n))
		x.want(t, put(l[:n-1], f), false, false)
		l = x.rest
	}
	back(l, num(0)).want(t, nil, false, true)
}

// P15.2: of no frames, of one, whatever it is.
func TestBackOver(t *testing.T) {
	back(nil, num(1)).want(t, nil, false, true)
	back([]api.Frame{}, num(1)).want(t, nil, false, true)
	back([]api.Frame{plain(1)}, num(1)).want(t, nil, false, true)
	back([]api.Frame{trying(1, api.Try{At: 1})}, num(1)).want(t, nil, false, true)
	for _, m := range everyMachine() {
		back([]api.Frame{m}, num(1)).want(t, nil, false, true)
	}
}

// P15.2: onto a code frame, whatever the top is, and whatever operands there are; handlers take no value.
func TestBackCode(t *testing.T) {
	values := append(goodTerms(), badTerms()[:15]...)
	for _, top := range []api.Frame{plain(5), trying(6, api.Try{At: 1}), machine(api.FrGen, 7), {Kind: 99}} {
		for _, f := range []api.Frame{{}, plain(0), plain(3), trying(4, api.Try{At: 9, High: 2}, api.Try{High: -1})} {
			for _, below := range [][]api.Frame{nil, {plain(1)}, {machine(api.FrSuper, 2), trying(3, api.Try{At: 2})}} {
				for _, x := range values {
					want := f
					want.Stack = put(f.Stack, x)
					back(put(below, f, top), x).want(t, put(below, want), false, false)
				}
			}
		}
	}
	// How many operands there are is not asked here.
	for _, n := range []int{0, 511, 512, 513, 1 << 12} {
		f := plain(1)
		f.Stack = nums(0, n)
		want := f
		want.Stack = nums(0, n+1)
		back([]api.Frame{f, plain(2)}, num(n)).want(t, []api.Frame{want}, false, false)
	}
}

// P15.2: onto a machine's frame: it is as it was.
func TestBackMachine(t *testing.T) {
	for _, m := range everyMachine() {
		for _, top := range []api.Frame{plain(5), trying(6, api.Try{At: 1}), machine(api.FrStart, 7)} {
			for _, below := range [][]api.Frame{nil, {plain(1)}, {plain(1), trying(3, api.Try{At: 2})}, {machine(api.FrSuper, 8)}} {
				back(put(below, m, top), num(1)).want(t, put(below, m), true, false)
			}
		}
	}
}

// P15.3: of no frames, and of frames without a handler nothing is left.
func TestUnwindOver(t *testing.T) {
	unwound(nil, api.ClError, num(1)).want(t, nil, false, true)
	unwound([]api.Frame{}, api.ClThrow, num(1)).want(t, nil, false, true)
	for _, l := range rows() {
		for _, c := range classes() {
			unwound(l, c, num(1)).want(t, nil, false, true)
		}
	}
	f := plain(1)
	f.Tries = []api.Try{}
	unwound([]api.Frame{f, f}, api.ClExit, num(1)).want(t, nil, false, true)
}

// taken is a code frame behind an exception that its last handler took: it kept so many operands.
func taken(f api.Frame, keeps int, class int8, x api.Term) api.Frame {
	last := f.Tries[len(f.Tries)-1]
	f.Stack = put(f.Stack[:keeps], atom(nameOf(class)), x)
	f.Tries, f.Pc, f.Wait = f.Tries[:len(f.Tries)-1], last.At, -1
	return f
}

// P15.3: the last handler takes it, of each class, whatever goes above it.
func TestUnwindHandler(t *testing.T) {
	for _, f := range []api.Frame{trying(1, api.Try{At: 9, High: 2}), trying(2, api.Try{At: 7, High: 1}, api.Try{At: 8, High: 2}), trying(3, api.Try{At: 5, High: 4}, api.Try{At: 0, High: 0}, api.Try{At: 6, High: 2})} {
		f.M.Phase = 1
		for _, above := range rows()[:4] {
			for _, below := range [][]api.Frame{nil, {plain(1)}, {trying(4, api.Try{At: 3, High: 1})}, {machine(api.FrSuper, 8), plain(2)}} {
				for _, c := range classes() {
					unwound(put(put(below, f), above...), c, num(77)).want(t, put(below, taken(f, 2, c, num(77))), false, false)
				}
			}
		}
	}
}

// P15.3: High at the operands that are there, below and above them, and where nothing puts it.
func TestUnwindHigh(t *testing.T) {
	for _, operands := range []int{0, 1, 2, 5, 511, 512, 600} {
		for _, high := range append(around(0, operands), operands/2) {
			f := plain(1)
			f.Stack, f.Tries = nums(10, operands), []api.Try{{At: 0, High: 0}, {At: -5, High: high}}
			keeps := high
			if high < 0 {
				keeps = 0
			} else if high > operands {
				keeps = operands
			}
			unwound([]api.Frame{plain(2), f, plain(3)}, api.ClThrow, atom("x")).want(t, []api.Frame{plain(2), taken(f, keeps, api.ClThrow, atom("x"))}, false, false)
		}
	}
}

// P15.3: wherever the handler is, that is where it goes on; nothing is asked of the place, or of the term.
func TestUnwindPlaces(t *testing.T) {
	for _, at := range []int{math.MinInt, -1, 0, 1, 4095, 4096, math.MaxInt} {
		for _, wait := range []int{-2, -1, 0, 7, 1 << 40, math.MaxInt, math.MinInt} {
			for _, x := range append(goodTerms(), badTerms()[:15]...) {
				f := trying(1, api.Try{At: at, High: 3})
				f.Wait = wait
				unwound([]api.Frame{f}, api.ClError, x).want(t, []api.Frame{taken(f, 3, api.ClError, x)}, false, false)
			}
		}
	}
}

// P15.3: handlers are taken one by one, the last one of the top's first.
func TestUnwindAgain(t *testing.T) {
	f := trying(1, api.Try{At: 1, High: 1}, api.Try{At: 2, High: 2}, api.Try{At: 3, High: 3})
	g := trying(2, api.Try{At: 4, High: 4})
	l := []api.Frame{f, g}
	for i, want := range []struct{ frames, at, high int }{{2, 4, 4}, {1, 3, 3}, {1, 2, 2}, {1, 1, 1}} {
		x := unwound(l, api.ClExit, num(i))
		if x.machine || x.over || len(x.rest) != want.frames {
			t.Fatal(i, x)
		}
		l = x.rest
		top := l[len(l)-1]
		if top.Pc != want.at || len(top.Stack) != want.high+2 || !same(top.Stack[want.high:], []api.Term{atom("exit"), num(i)}) {
			t.Error(i, top)
		}
	}
	unwound(l, api.ClExit, num(9)).want(t, nil, false, true)
}

// P15.3, P15.4: a machine's frame stops it, on top, and behind code frames that go; what lies in it and below is as it was.
func TestUnwindMachine(t *testing.T) {
	for _, m := range everyMachine() {
		for _, above := range rows()[:5] {
			for _, below := range [][]api.Frame{nil, {plain(1)}, {trying(3, api.Try{At: 2, High: 1})}, {machine(api.FrSuper, 8), trying(2, api.Try{At: 1})}} {
				for _, c := range []int8{-1, 0, 1, 2, 3, 4, 127} {
					unwound(put(put(below, m), above...), c, num(77)).want(t, put(below, m), true, false)
				}
				// A handler above it takes it.
				f := trying(6, api.Try{At: 5, High: 1})
				unwound(put(put(below, m, f), above...), api.ClThrow, num(77)).want(t, put(below, m, taken(f, 1, api.ClThrow, num(77))), false, false)
			}
		}
	}
}

// The chapter's examples.
func TestExamples(t *testing.T) {
	m, f, g := machine(api.FrServer, 1), plain(2), trying(3, api.Try{At: 6, High: 2})
	unwound([]api.Frame{m, f}, api.ClError, num(1)).want(t, []api.Frame{m}, true, false)
	x := unwound([]api.Frame{g, f}, api.ClError, num(1))
	if len(x.rest) != 1 || x.rest[0].Pc != 6 || x.machine || x.over {
		t.Error(x)
	}
}
