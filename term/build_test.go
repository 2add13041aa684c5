package term

import (
	"slices"
	"testing"

	"pleach/api"
)

func wantTuple(t *testing.T, l []api.Term, want api.Term, e api.Errno) {
	t.Helper()
	got, gotE := Tuple(l)
	wantTerm(t, got, gotE, want, e)
}

func wantCons(t *testing.T, a, b api.Term, want api.Term, e api.Errno) {
	t.Helper()
	got, gotE := Cons(a, b)
	wantTerm(t, got, gotE, want, e)
}

func wantFrom(t *testing.T, l []api.Term, want api.Term, e api.Errno) {
	t.Helper()
	got, gotE := FromList(l)
	wantTerm(t, got, gotE, want, e)
}

func wantList(t *testing.T, x api.Term, want []api.Term, ok bool) {
	t.Helper()
	got, gotOK := List(x)
	if gotOK != ok || !slices.EqualFunc(got, want, same) {
		t.Errorf("%s: %d %v, not %d %v", show(x), len(got), gotOK, len(want), ok)
	}
}

// P3.3
func TestBuild(t *testing.T) {
	for _, l := range [][]api.Term{nil, {}} {
		wantTuple(t, l, row(), api.OK)
		wantFrom(t, l, none(), api.OK)
	}
	few := []api.Term{num(1), name("a"), row(num(2)), list(num(3)), pair(num(4), num(5))}
	wantTuple(t, few, row(few...), api.OK)
	wantFrom(t, few, list(few...), api.OK)
	for _, a := range few {
		for _, b := range few {
			wantCons(t, a, b, pair(a, b), api.OK)
		}
		wantTuple(t, []api.Term{a}, row(a), api.OK)
		wantFrom(t, []api.Term{a}, list(a), api.OK)
	}
	wantTuple(t, flat(), row(flat()...), api.OK)
	wantFrom(t, flat(), list(flat()...), api.OK)
}

// P3.3: MaxTerm nodes, and one more.
func TestBuildLimit(t *testing.T) {
	wantTuple(t, nums(254), wide(255), api.OK)
	wantTuple(t, nums(255), wide(256), api.OK)
	wantTuple(t, nums(256), api.Term{}, api.ErrLimit)
	wantTuple(t, nums(1<<18), api.Term{}, api.ErrLimit)
	wantTuple(t, []api.Term{wide(255)}, row(wide(255)), api.OK)
	wantTuple(t, []api.Term{deep(256)}, api.Term{}, api.ErrLimit)
	wantTuple(t, []api.Term{wide(127), num(1), deep(127)}, row(wide(127), num(1), deep(127)), api.OK)
	wantTuple(t, []api.Term{wide(127), num(1), deep(128)}, api.Term{}, api.ErrLimit)
	wantTuple(t, []api.Term{wide(256), wide(256), wide(256)}, api.Term{}, api.ErrLimit)

	wantCons(t, wide(100), wide(155), pair(wide(100), wide(155)), api.OK)
	wantCons(t, wide(100), wide(156), api.Term{}, api.ErrLimit)
	wantCons(t, num(1), wide(254), pair(num(1), wide(254)), api.OK)
	wantCons(t, wide(255), num(1), api.Term{}, api.ErrLimit)
	wantCons(t, num(1), chain(253), pair(num(1), chain(253)), api.OK)
	wantCons(t, num(1), chain(255), api.Term{}, api.ErrLimit)

	wantFrom(t, nums(127), chain(255), api.OK)
	wantFrom(t, nums(128), api.Term{}, api.ErrLimit)
	wantFrom(t, nums(1<<18), api.Term{}, api.ErrLimit)
	l := append(nums(126), row(num(1)))
	wantFrom(t, l, list(l...), api.OK)
	wantFrom(t, append(l[:126], row(num(1), num(2))), api.Term{}, api.ErrLimit)
	wantFrom(t, []api.Term{wide(254)}, list(wide(254)), api.OK)
	wantFrom(t, []api.Term{wide(255)}, api.Term{}, api.ErrLimit)
}

// P3.3: ErrTerm goes ahead of ErrLimit, wherever the part stands.
func TestBuildWrong(t *testing.T) {
	great := wide(300)
	for _, x := range wrong() {
		for _, l := range [][]api.Term{{x}, {num(1), x}, {x, num(1)}, {great, x}, {x, great}, append(nums(1000), x), append([]api.Term{x}, nums(300)...), {row(num(1), row(x))}} {
			wantTuple(t, l, api.Term{}, api.ErrTerm)
			wantFrom(t, l, api.Term{}, api.ErrTerm)
		}
		for _, y := range []api.Term{num(1), none(), great, x} {
			wantCons(t, x, y, api.Term{}, api.ErrTerm)
			wantCons(t, y, x, api.Term{}, api.ErrTerm)
		}
	}
}

// P3.3: of a part that is too great itself Check tells what is told.
func TestBuildOfGreat(t *testing.T) {
	bad := name("")
	late := row(append(nums(256), bad)...)  // the 258th node
	early := row(append(nums(255), bad)...) // the 257th
	for _, x := range []api.Term{wide(257), deep(257), comb(257), late} {
		wantTuple(t, []api.Term{x}, api.Term{}, api.ErrLimit)
		wantFrom(t, []api.Term{num(1), x}, api.Term{}, api.ErrLimit)
		wantCons(t, x, num(1), api.Term{}, api.ErrLimit)
		wantCons(t, num(1), x, api.Term{}, api.ErrLimit)
		wantTuple(t, []api.Term{x, early}, api.Term{}, api.ErrTerm)
		wantFrom(t, []api.Term{x, early}, api.Term{}, api.ErrTerm)
		wantCons(t, x, early, api.Term{}, api.ErrTerm)
	}
}

// P3.3
func TestList(t *testing.T) {
	wantList(t, none(), nil, true)
	for _, n := range []int{1, 2, 3, 50, 127} {
		wantList(t, list(nums(n)...), nums(n), true)
	}
	inner := []api.Term{list(num(1), num(2)), none(), pair(num(1), num(2)), row(none())}
	wantList(t, list(inner...), inner, true)
	for _, x := range flat() {
		if x.K != api.KNil {
			wantList(t, x, nil, false)
			wantList(t, pair(num(1), x), nil, false)
		}
	}
	for _, x := range []api.Term{
		row(num(1)), row(none()), pair(num(1), num(2)), pair(none(), row()), pair(num(1), pair(num(2), name("a"))), pair(list(num(1)), row(none())),
		list(nums(128)...), list(nums(1000)...), list(wide(254), num(1)),
	} {
		wantList(t, x, nil, false)
	}
	for _, x := range wrong() {
		wantList(t, x, nil, false)
		wantList(t, list(num(1), x), nil, false)
		wantList(t, pair(num(1), pair(num(2), x)), nil, false)
	}
}

// R4: what is handed in is neither changed nor kept, the room behind it included.
func TestBuildKeepsNothing(t *testing.T) {
	room := nums(10)
	l := room[:3]
	tuple, _ := Tuple(l)
	proper, _ := FromList(l)
	if !slices.EqualFunc(room, nums(10), same) {
		t.Error("changed", room)
	}
	parts, _ := List(proper)
	l[1] = name("x")
	wantTerm(t, tuple, api.OK, row(nums(3)...), api.OK)
	wantTerm(t, proper, api.OK, list(nums(3)...), api.OK)
	parts[0] = name("y")
	_ = append(parts[:1], name("z"))
	wantTerm(t, proper, api.OK, list(nums(3)...), api.OK)
	again, _ := List(proper)
	if !slices.EqualFunc(again, nums(3), same) {
		t.Error(again)
	}
}

// R4: two answers share no memory.
func TestAnswersAreNew(t *testing.T) {
	l := nums(2)
	a, _ := Tuple(l)
	b, _ := Tuple(l)
	a.L[0] = name("x")
	wantTerm(t, b, api.OK, row(nums(2)...), api.OK)
	c, _ := FromList(l)
	d, _ := FromList(l)
	c.L[0], c.L[1].L[0] = name("x"), name("x")
	wantTerm(t, d, api.OK, list(nums(2)...), api.OK)
	e, _ := Cons(l[0], l[1])
	f, _ := Cons(l[0], l[1])
	e.L[0] = name("x")
	wantTerm(t, f, api.OK, pair(num(0), num(1)), api.OK)
}

// P3.5: List and FromList go there and back.
func TestListAndBack(t *testing.T) {
	for _, x := range slices.Concat(someTerms(500), flat(), built()) {
		l, ok := List(x)
		if !ok {
			continue
		}
		back, e := FromList(l)
		wantTerm(t, back, e, x, api.OK)
	}
	terms := someTerms(300)
	for i := range terms {
		l := terms[i:min(i+i%7, len(terms))]
		x, e := FromList(l)
		if e == api.ErrLimit {
			continue
		}
		if e != api.OK || Check(x) != api.OK {
			t.Error(e, Check(x))
		}
		wantList(t, x, l, true)
	}
}
