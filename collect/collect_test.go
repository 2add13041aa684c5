package collect

import (
	"fmt"
	"math"
	"slices"
	"testing"

	"pleach/api"
	"pleach/heap"
	"pleach/term"
)

func num(n int) api.Term { return api.Term{N: n} }

func row(l ...api.Term) api.Term { return api.Term{K: api.KTuple, L: l} }

func leaf(t api.Term) api.Word { return api.Word{T: t} }

func one() api.Word { return leaf(num(1)) }

func at(n int) api.Word { return api.Word{Cell: true, At: n} }

func ats(l ...int) []api.Word {
	var w []api.Word
	for _, n := range l {
		w = append(w, at(n))
	}
	return w
}

func read(t *testing.T, s string) api.Term {
	t.Helper()
	x, used, e := term.Read(s)
	if e != api.OK || used != len(s) {
		t.Fatal(s, used, e)
	}
	return x
}

// build is a heap of tuples, each of the words of one list.
func build(t *testing.T, lists ...[]api.Word) *heap.Heap {
	t.Helper()
	h := heap.New()
	for i, l := range lists {
		if w, e := h.Make(api.KTuple, l); e != api.OK || !sameWord(w, at(i)) {
			t.Fatal(i, w, e)
		}
	}
	return h
}

// put is a heap onto which those texts were put, and the words of these.
func put(t *testing.T, texts ...string) (*heap.Heap, []api.Word) {
	t.Helper()
	h := heap.New()
	var l []api.Word
	for _, s := range texts {
		w, e := h.Put(read(t, s))
		if e != api.OK {
			t.Fatal(s, e)
		}
		l = append(l, w)
	}
	return h, l
}

func sameTerm(a, b api.Term) bool {
	return a.K == b.K && a.N == b.N && a.S == b.S && a.T == b.T && slices.EqualFunc(a.L, b.L, sameTerm)
}

func sameWord(a, b api.Word) bool {
	return a.Cell == b.Cell && a.At == b.At && sameTerm(a.T, b.T)
}

func sameCell(a, b api.Cell) bool {
	return a.K == b.K && a.Size == b.Size && slices.EqualFunc(a.L, b.L, sameWord)
}

// told is what a heap tells of itself; "none", of nil.
func told(h *heap.Heap) string {
	if h == nil {
		return "none"
	}
	s := fmt.Sprint(h.Len(), h.Words())
	for n := range h.Len() {
		c, _ := h.Cell(n)
		x, _ := h.Take(at(n))
		s += fmt.Sprint("\n", n, c, term.Text(x))
	}
	return s
}

// wantRun: Run tells a heap that is like that one, and those words; h and the roots are as they were; and Reached tells those places.
func wantRun(t *testing.T, h *heap.Heap, roots []api.Word, places []int, o *heap.Heap, to []api.Word) {
	t.Helper()
	before, given := told(h), slices.Clone(roots)
	got, words, e := Run(h, roots)
	if e != api.OK || told(got) != told(o) || !slices.EqualFunc(words, to, sameWord) {
		t.Errorf("of %v: %v %v %s\nnot %v %s", roots, e, words, told(got), to, told(o))
	}
	l, e := Reached(h, roots)
	if e != api.OK || !slices.Equal(l, places) {
		t.Errorf("of %v: reached %v %v, not %v", roots, l, e, places)
	}
	if told(h) != before || !slices.EqualFunc(roots, given, sameWord) {
		t.Errorf("of %v: changed: %s\nwas %v %s", roots, told(h), given, before)
	}
}

// wantError: Run and Reached tell it, and nothing else; h is as it was.
func wantError(t *testing.T, h *heap.Heap, roots []api.Word, want api.Errno) {
	t.Helper()
	before := told(h)
	if o, to, e := Run(h, roots); o != nil || len(to) != 0 || e != want {
		t.Errorf("of %v: %s %v %v, not %v", roots, told(o), to, e, want)
	}
	if l, e := Reached(h, roots); len(l) != 0 || e != want {
		t.Errorf("of %v: reached %v %v, not %v", roots, l, e, want)
	}
	if told(h) != before {
		t.Errorf("of %v: changed: %s\nwas %s", roots, told(h), before)
	}
}

// wrongWords are words that may not be in a heap of so many cells.
func wrongWords(cells int) []api.Word {
	return []api.Word{
		at(-1), at(cells), at(cells + 1), at(math.MaxInt), at(math.MinInt),
		{At: 1}, {At: -1, T: num(1)}, {Cell: true, T: num(1)}, {Cell: true, T: api.Term{K: api.KNil}}, {Cell: true, At: cells - 1, T: row()},
		leaf(row()), leaf(row(num(1))), leaf(api.Term{K: api.KCons, L: []api.Term{num(1), num(2)}}), leaf(api.Term{K: api.KCons}), leaf(row(make([]api.Term, 300)...)),
		leaf(num(api.MaxInt + 1)), leaf(num(-api.MaxInt - 2)), leaf(api.Term{K: api.KAtom}), leaf(api.Term{K: api.KAtom, S: "A"}), leaf(api.Term{K: api.KPid, N: -1}), leaf(api.Term{K: api.KNil, N: 1}), leaf(api.Term{K: -1}), leaf(api.Term{K: 8}), leaf(api.Term{L: []api.Term{num(1)}}),
	}
}

// P5.1: ErrNil goes ahead of ErrArg.
func TestNoHeap(t *testing.T) {
	for _, l := range [][]api.Word{nil, {}, {one()}, {at(0)}, {at(-1)}, wrongWords(0)} {
		wantError(t, nil, l, api.ErrNil)
	}
	all := Cells(nil)
	if all == nil {
		t.Fatal("no iterator")
	}
	for range 2 {
		for n, c := range all {
			t.Error(n, c)
		}
	}
}

// P5.1: the chapter's example.
func TestExample(t *testing.T) {
	h := build(t, []api.Word{one()}, []api.Word{leaf(num(0))}, ats(1))
	wantRun(t, h, ats(2), []int{1, 2}, build(t, []api.Word{leaf(num(0))}, ats(0)), ats(1))
}

// P5.1: a heap without cells, no roots, and roots without cells.
func TestNoCells(t *testing.T) {
	full := build(t, nil, []api.Word{at(0), at(0)})
	var leaves []api.Word
	for _, s := range []string{"0", "1", "576460752303423487", "-576460752303423488", "a", "zA_9", "#Ref<0>", "#Ref<7>", "<3>", "fun m:f/8", "[]", "1"} {
		leaves = append(leaves, leaf(read(t, s)))
	}
	for _, h := range []*heap.Heap{heap.New(), {}, full} {
		for _, l := range [][]api.Word{nil, {}, leaves} {
			wantRun(t, h, l, nil, heap.New(), l)
		}
	}
}

// P5.1: the first cell, the last one, those between, all and none.
func TestWhich(t *testing.T) {
	tens := func(l ...int) *heap.Heap {
		var lists [][]api.Word
		for _, n := range l {
			lists = append(lists, []api.Word{leaf(num(10 * n))})
		}
		return build(t, lists...)
	}
	h := tens(0, 1, 2, 3, 4)
	wantRun(t, h, ats(0), []int{0}, tens(0), ats(0))
	wantRun(t, h, ats(4), []int{4}, tens(4), ats(0))
	wantRun(t, h, ats(2), []int{2}, tens(2), ats(0))
	wantRun(t, h, ats(4, 0), []int{0, 4}, tens(0, 4), ats(1, 0))
	wantRun(t, h, ats(3, 1, 2), []int{1, 2, 3}, tens(1, 2, 3), ats(2, 0, 1))
	wantRun(t, h, ats(4, 3, 2, 1, 0), []int{0, 1, 2, 3, 4}, h, ats(4, 3, 2, 1, 0))
	wantRun(t, h, ats(0, 1, 2, 3, 4), []int{0, 1, 2, 3, 4}, h, ats(0, 1, 2, 3, 4))
	wantRun(t, h, nil, nil, heap.New(), nil)
}

// P5.1: roots stand in their order, as often as they are told.
func TestRootsTwice(t *testing.T) {
	h := build(t, nil, []api.Word{one()}, ats(0, 0))
	a := leaf(read(t, "a"))
	want := build(t, nil, ats(0, 0))
	wantRun(t, h, ats(2, 2), []int{0, 2}, want, ats(1, 1))
	wantRun(t, h, []api.Word{at(2), a, at(0), a, at(2), at(0)}, []int{0, 2}, want, []api.Word{at(1), a, at(0), a, at(1), at(0)})
	// A cell is reached by itself and by another one, whichever is told first.
	wantRun(t, h, ats(0, 2), []int{0, 2}, want, ats(0, 1))
	wantRun(t, h, ats(2, 0), []int{0, 2}, want, ats(1, 0))
	wantRun(t, h, slices.Repeat(ats(1), 1000), []int{1}, build(t, []api.Word{one()}), slices.Repeat(ats(0), 1000))
}

// P5.1: equal terms in cells of their own stay in cells of their own.
func TestEqualCells(t *testing.T) {
	h, l := put(t, "{1}", "[a|b]", "{1}", "{{1},{1}}", "[a|b]")
	o, to := put(t, "{1}", "{1}", "{{1},{1}}")
	wantRun(t, h, []api.Word{l[0], l[2], l[3]}, []int{0, 2, 3, 4, 5}, o, to)
	o, to = put(t, "[a|b]", "[a|b]")
	wantRun(t, h, []api.Word{l[4], l[1], l[4]}, []int{1, 6}, o, []api.Word{to[1], to[0], to[1]})
}

// P5.1: tuples and conses, their kinds, sizes and parts.
func TestKinds(t *testing.T) {
	texts := []string{"{}", "[]", "[1|2]", "{1,2}", "{a,[1,2|b],<3>,#Ref<4>,fun m:f/2,{}}", "[[1],[2,{3}],[]]", "-1"}
	dead := []string{"{x}", "[x|y]", "{{x},{x}}", "[x,y]", "{}", "[{x}]", "{x,[x]}"}
	var mixed []string
	for i := range texts {
		mixed = append(mixed, dead[i], texts[i])
	}
	h, l := put(t, mixed...)
	o, to := put(t, texts...)
	var roots []api.Word
	for i := range texts {
		roots = append(roots, l[2*i+1])
	}
	places := []int{1, 6, 9, 11, 12, 13, 14, 17, 18, 19, 20, 21, 22, 23}
	wantRun(t, h, roots, places, o, to)
}

// P5.1: cells that are named twice, by one cell, by two, and over two.
func TestShared(t *testing.T) {
	h := build(t, nil, []api.Word{one()}, ats(0, 0), ats(1), ats(0, 2), ats(2, 0, 2), ats(4, 5))
	wantRun(t, h, ats(6), []int{0, 2, 4, 5, 6}, build(t, nil, ats(0, 0), ats(0, 1), ats(1, 0, 1), ats(2, 3)), ats(4))
	wantRun(t, h, ats(5, 4), []int{0, 2, 4, 5}, build(t, nil, ats(0, 0), ats(0, 1), ats(1, 0, 1)), ats(3, 2))
	wantRun(t, h, ats(3), []int{1, 3}, build(t, []api.Word{one()}, ats(0)), ats(1))
}

// doubled are cells of which each names the one ahead twice, as often as MaxTerm lets it, and that from the beginning again and again: so many cells.
func doubled(n int) [][]api.Word {
	var lists [][]api.Word
	for i := range n {
		if i%8 == 0 {
			lists = append(lists, []api.Word{})
		} else {
			lists = append(lists, ats(i-1, i-1))
		}
	}
	return lists
}

// P5.1, P5.2: chains in which each cell is named twice by the next one.
func TestChains(t *testing.T) {
	h := build(t, doubled(8)...)
	wantRun(t, h, ats(7), []int{0, 1, 2, 3, 4, 5, 6, 7}, h, ats(7))
	wantRun(t, h, ats(7, 7, 3), []int{0, 1, 2, 3, 4, 5, 6, 7}, h, ats(7, 7, 3))
	wantRun(t, h, ats(3), []int{0, 1, 2, 3}, build(t, doubled(4)...), ats(3))
	if n, _ := h.Size(at(7)); n != 255 || !Same(h, at(7), h, at(7)) || Same(h, at(7), h, at(6)) {
		t.Error(n)
	}

	// A dead cell ahead of each of the chain.
	var lists [][]api.Word
	for i := range 8 {
		l := []api.Word{}
		if i > 0 {
			l = ats(2*i-1, 2*i-1)
		}
		lists = append(lists, []api.Word{one()}, l)
	}
	wantRun(t, build(t, lists...), ats(15), []int{1, 3, 5, 7, 9, 11, 13, 15}, h, ats(7))

	many := build(t, doubled(64)...)
	var roots, to []api.Word
	var places []int
	for i := 15; i < 64; i += 16 {
		roots, to = append(roots, at(i)), append(to, at(len(roots)*8+7))
		for n := i - 7; n <= i; n++ {
			places = append(places, n)
		}
	}
	wantRun(t, many, roots, places, build(t, doubled(32)...), to)
}

// P5.1: the greatest terms: wide, deep, and a long list.
func TestGreatest(t *testing.T) {
	deep, list := row(), api.Term{K: api.KNil}
	for range 255 {
		deep = row(deep)
	}
	for n := range 127 {
		list = api.Term{K: api.KCons, L: []api.Term{num(n), list}}
	}
	h, o := heap.New(), heap.New()
	var roots, to []api.Word
	var places []int
	for _, x := range []api.Term{row(make([]api.Term, 255)...), deep, list} {
		h.Put(row(num(9), row()))
		first := h.Len()
		w, e := h.Put(x)
		if e != api.OK {
			t.Fatal(e)
		}
		for n := first; n < h.Len(); n++ {
			places = append(places, n)
		}
		v, _ := o.Put(x)
		roots, to = append(roots, w), append(to, v)
	}
	wantRun(t, h, roots, places, o, to)
}

// P5.1: a root that may not be, wherever it stands among right ones.
func TestWrongRoots(t *testing.T) {
	h, right := put(t, "{{1},2}", "[a|b]", "5")
	wantRun(t, h, right, []int{0, 1, 2}, h, right)
	for _, w := range wrongWords(h.Len()) {
		wantError(t, h, []api.Word{w}, api.ErrArg)
		wantError(t, h, []api.Word{w, w}, api.ErrArg)
		for n := range len(right) + 1 {
			wantError(t, h, slices.Insert(slices.Clone(right), n, w), api.ErrArg)
		}
		wantError(t, h, append(slices.Repeat(right, 100), w), api.ErrArg)
	}
	wantError(t, heap.New(), ats(0), api.ErrArg)
}

// P5.1, P5.2: words of one heap asked of another one: they are what they are there, if anything.
func TestOtherHeap(t *testing.T) {
	a, la := put(t, "{1}", "{2}", "{{3}}")
	b, lb := put(t, "[x|y]", "{}")
	wantError(t, b, la, api.ErrArg)
	wantError(t, b, ats(2), api.ErrArg)
	o, to := put(t, "{1}", "{2}")
	wantRun(t, a, lb, []int{0, 1}, o, to)
	o, to = put(t, "{}")
	wantRun(t, b, la[1:2], []int{1}, o, to)
	if Same(a, la[0], b, la[0]) || Same(a, la[2], b, la[2]) || Same(b, la[2], a, la[2]) {
		t.Error("Same")
	}
	// What is collected is another heap, too.
	o, to, _ = Run(a, la[2:])
	wantError(t, o, la, api.ErrArg)
	wantRun(t, a, to, []int{1}, build(t, []api.Word{leaf(num(2))}), ats(0))
	if !Same(a, la[2], o, to[0]) || Same(a, to[0], o, to[0]) || Same(a, la[2], o, la[2]) {
		t.Error("Same of collected words")
	}
}

// R3, R4: heaps that are collected and those they come from know nothing of one another.
func TestApart(t *testing.T) {
	h, l := put(t, "{{1,2},[3|4]}", "{5}")
	o, to, _ := Run(h, l)
	p, _, _ := Run(h, l)
	was := told(h)
	if o == h || p == h || o == p {
		t.Error("one heap")
	}
	o.Put(read(t, "{x,{y}}"))
	o.Make(api.KTuple, to)
	if told(h) != was || told(p) != was {
		t.Error(told(h), told(p), was)
	}
	grown := told(o)
	h.Make(api.KCons, []api.Word{l[1], at(0)})
	if told(o) != grown || told(p) != was {
		t.Error(told(o), told(p))
	}
	// Nothing is left of an earlier collection.
	wantRun(t, h, l, []int{0, 1, 2, 3}, p, to)
	wantRun(t, p, l[1:], []int{3}, build(t, []api.Word{leaf(num(5))}), ats(0))
}

// R4: what is handed in and what is told share nothing, and the heaps share nothing with either.
func TestMemory(t *testing.T) {
	h, l := put(t, "{{1},[2|3]}", "{4}")
	behind := []api.Term{num(5), num(6)}
	free := leaf(api.Term{K: api.KNil, L: behind[:0]})
	room := append(slices.Clone(l), free, one(), one())
	roots := room[:4]
	o, to, e := Run(h, roots)
	_, again, _ := Run(h, roots)
	places, _ := Reached(h, roots)
	other, _ := Reached(h, roots)
	wasH, wasO := told(h), told(o)
	if e != api.OK || len(to) != 4 || len(places) != 4 {
		t.Fatal(e, to, places)
	}
	_, _ = append(to, leaf(num(7))), append(places, 7)
	_ = append(to[2].T.L, num(7))
	to[0], to[1], to[3], places[0], places[1] = at(9), at(9), at(9), 9, 9
	if !sameTerm(row(behind...), row(num(5), num(6))) || !slices.EqualFunc(room, append(slices.Clone(l), free, one(), one()), sameWord) {
		t.Error("changed", behind, room)
	}
	room[0], room[1], room[2], room[3] = at(9), at(9), at(9), at(9)
	if !slices.EqualFunc(again, append(slices.Clone(l), leaf(api.Term{K: api.KNil}), one()), sameWord) || !slices.Equal(other, []int{0, 1, 2, 3}) {
		t.Error("shared", again, other)
	}
	if told(h) != wasH || told(o) != wasO {
		t.Error("changed", told(h), told(o))
	}
}
