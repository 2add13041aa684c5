package frame

import (
	"slices"
	"testing"

	"pleach/api"
)

// roomy is a row with something in the spare room behind it.
func roomy[T any](l []T, spare T) []T {
	n := len(l)
	return put(l, spare, spare, spare)[:n]
}

// roomyFrame is a frame with something in the spare room of each of its rows.
func roomyFrame(f api.Frame) api.Frame {
	f.Slots, f.Stack = roomy(f.Slots, num(-7)), roomy(f.Stack, num(-8))
	f.Bound, f.Tries = roomy(f.Bound, true), roomy(f.Tries, api.Try{At: -9, High: -9})
	f.M.Recs, f.M.Log, f.M.Todo = roomy(f.M.Recs, api.Record{Pid: -5}), roomy(f.M.Log, -6), roomy(f.M.Todo, -7)
	return f
}

func roomyStack(l []api.Frame) []api.Frame {
	out := roomy(l, plain(9))
	for i := range out {
		out[i] = roomyFrame(out[i])
	}
	return out
}

// full is a row with the room behind it.
func full[T any](l []T) []T { return l[:cap(l)] }

// wholeFrame is a frame whose rows are told with the room behind them, in new memory.
func wholeFrame(f api.Frame) api.Frame {
	f.Slots, f.Stack, f.Bound, f.Tries = slices.Clone(full(f.Slots)), slices.Clone(full(f.Stack)), slices.Clone(full(f.Bound)), slices.Clone(full(f.Tries))
	f.M.Recs, f.M.Log, f.M.Todo = slices.Clone(full(f.M.Recs)), slices.Clone(full(f.M.Log)), slices.Clone(full(f.M.Todo))
	return f
}

// seen is all of a stack that may be seen, with the room behind it and behind its frames' rows, in new memory.
func seen(l []api.Frame) []api.Frame {
	out := slices.Clone(full(l))
	for i := range out {
		out[i] = wholeFrame(out[i])
	}
	return out
}

func scribble[T any](l []T, x T) {
	for i := range full(l) {
		full(l)[i] = x
	}
}

// spoil writes over all that a stack holds, and over the room behind it.
func spoil(l []api.Frame) {
	for _, f := range full(l) {
		scribble(f.Slots, num(-99))
		scribble(f.Stack, num(-98))
		scribble(f.Bound, true)
		scribble(f.Tries, api.Try{At: -97, High: -96})
		scribble(f.M.Recs, api.Record{Pid: -95})
		scribble(f.M.Log, -94)
		scribble(f.M.Todo, -93)
	}
	scribble(l, api.Frame{Kind: 99})
}

// stacks are some of each way that an exception or a value may go.
func stacks() [][]api.Frame {
	f, m := trying(3, api.Try{At: 1, High: 0}, api.Try{At: 2, High: 2}), machine(api.FrSuper, 4)
	return [][]api.Frame{
		nil, {plain(1)}, {m}, {f}, {plain(1), plain(2)}, {f, plain(2)}, {plain(1), f, plain(2)}, {m, plain(1)}, {plain(1), m, f, plain(2), plain(3)},
		{f, m}, {m, m, plain(1)}, {plain(0), f, m, plain(5)}, {f, f, f, f}, {m, f, m, f},
	}
}

// asks are the calls on stacks.
func asks() []func(l []api.Frame) []api.Frame {
	return []func(l []api.Frame) []api.Frame{
		func(l []api.Frame) []api.Frame { rest, _ := Push(l, trying(7, api.Try{At: 1})); return rest },
		func(l []api.Frame) []api.Frame { return back(l, num(71)).rest },
		func(l []api.Frame) []api.Frame { return unwound(l, api.ClError, num(72)).rest },
		func(l []api.Frame) []api.Frame { return unwound(l, -7, num(73)).rest },
	}
}

// P15.2, P15.3, P15.4: what was handed in is as it was, and so is what lies behind it; a later change of one shows in no other one.
func TestKept(t *testing.T) {
	for i, was := range stacks() {
		for j, ask := range asks() {
			l := roomyStack(was)
			before := seen(l)
			a, b := ask(l), ask(l)
			if !same(seen(l), before) {
				t.Errorf("stack %d, call %d: changed", i, j)
			}
			want := ask(roomyStack(was))
			spoil(a)
			if !same(seen(l), before) || !same(b, want) {
				t.Errorf("stack %d, call %d: an answer's memory is shared", i, j)
			}
			if c := ask(l); !same(c, want) {
				t.Errorf("stack %d, call %d: kept", i, j)
			}
			spoil(l)
			if !same(b, want) {
				t.Errorf("stack %d, call %d: what was handed in is shared", i, j)
			}
		}
	}
}

// P15.4: frames that share their rows when they are handed in share none in the answer.
func TestRowsApart(t *testing.T) {
	f := roomyFrame(trying(3, api.Try{At: 1, High: 0}, api.Try{At: 2, High: 2}))
	m := roomyFrame(machine(api.FrSuper, 4))
	for j, ask := range asks() {
		for _, l := range [][]api.Frame{{f, f, f, f}, {m, m, f, f}, {m, m, m}, {f, m, m}} {
			want := ask(l)
			for i := range want {
				got := ask(l)
				spoil(got[i : i+1 : i+1])
				for k := range got {
					if k != i && !same(got[k], want[k]) {
						t.Errorf("call %d: the frames %d and %d share a row", j, i, k)
					}
				}
			}
		}
	}
}

// P15.2: the frame that is put on top, too, is as it was, and shares nothing.
func TestPushKept(t *testing.T) {
	for _, was := range []api.Frame{plain(3), trying(7, api.Try{At: 1}), machine(api.FrStop, 8)} {
		f := roomyFrame(was)
		before := wholeFrame(f)
		l, _ := Push(nil, f)
		other, _ := Push([]api.Frame{f}, f)
		if !same(wholeFrame(f), before) {
			t.Error("changed")
		}
		spoil(l)
		if !same(wholeFrame(f), before) {
			t.Error("the answer's memory is shared")
		}
		spoil([]api.Frame{f})
		if !same(other, []api.Frame{was, was}) {
			t.Error("what was handed in is shared")
		}
	}
}

// P15.1: arguments, codes and frames are as they were, and share nothing with the frame.
func TestEnterKept(t *testing.T) {
	p, before := prog(), prog()
	for fn, b := range base {
		args := roomy(nums(7, b.n), num(-1))
		was := slices.Clone(full(args))
		f, e := Enter(p, fn, args)
		g, _ := Enter(p, fn, args)
		if e != api.OK || !same(full(args), was) || !same(p, before) {
			t.Error(fn, e, full(args))
		}
		spoil([]api.Frame{f})
		if !same(full(args), was) || !same(p, before) {
			t.Error(fn, full(args))
		}
		scribble(args, num(-2))
		for i := range b.n {
			if g.Slots[i].N != 7+i || !g.Bound[i] {
				t.Error(fn, i, g)
			}
		}
		h := roomyFrame(whole(fn))
		held := wholeFrame(h)
		if Check(p, h) != api.OK || !same(wholeFrame(h), held) || !same(p, before) {
			t.Error(fn, h)
		}
	}
}

// P15.3: terms that are told are each their own.
func TestAtomsKept(t *testing.T) {
	x := tuple(num(1), num(2))
	a, b := Reason(api.ClError, x), Reason(api.ClError, x)
	scribble(a.L, num(9))
	if !same(b, tuple(atom("error"), tuple(num(1), num(2)))) || !same(x, tuple(num(1), num(2))) {
		t.Error(b, x)
	}
	if y := Reason(api.ClError, x); !same(y, b) {
		t.Error(y)
	}
}
