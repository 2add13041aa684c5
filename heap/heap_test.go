package heap

import (
	"math"
	"slices"
	"strings"
	"testing"

	"pleach/api"
	"pleach/term"
)

func num(n int) api.Term { return api.Term{N: n} }

func name(s string) api.Term { return api.Term{K: api.KAtom, S: s} }

func row(l ...api.Term) api.Term { return api.Term{K: api.KTuple, L: l} }

func pair(a, b api.Term) api.Term { return api.Term{K: api.KCons, L: []api.Term{a, b}} }

func leaf(t api.Term) api.Word { return api.Word{T: t} }

func at(n int) api.Word { return api.Word{Cell: true, At: n} }

// ones are n words, each of them 1.
func ones(n int) []api.Word { return slices.Repeat([]api.Word{leaf(num(1))}, n) }

// leaves are terms without parts, at their edges.
func leaves() []api.Term {
	long := strings.Repeat("a", 32)
	return []api.Term{
		num(0), num(1), num(-1), num(api.MaxInt), num(-api.MaxInt - 1),
		name("a"), name("z"), name("a_B1"), name(long),
		{K: api.KRef}, {K: api.KRef, N: 1}, {K: api.KRef, N: api.MaxInt},
		{K: api.KFun, S: "m", T: "f"}, {K: api.KFun, S: long, T: long, N: api.MaxArity},
		{K: api.KPid}, {K: api.KPid, N: 3}, {K: api.KPid, N: api.MaxInt},
		{K: api.KNil}, {K: api.KNil, L: []api.Term{}},
	}
}

// wrong are terms that may not be, of which term.Check tells ErrTerm.
func wrong() []api.Term {
	l := []api.Term{
		num(api.MaxInt + 1), num(-api.MaxInt - 2), num(math.MaxInt), num(math.MinInt),
		name(""), name("A"), name("_"), name("0"), name("a-b"), name("é"), name(strings.Repeat("a", 33)),
		{K: api.KRef, N: -1}, {K: api.KRef, N: api.MaxInt + 1}, {K: api.KPid, N: -1}, {K: api.KPid, N: api.MaxInt + 1},
		{K: api.KFun, S: "", T: "f"}, {K: api.KFun, S: "m", T: "F"}, {K: api.KFun, S: "m", T: "f", N: -1}, {K: api.KFun, S: "m", T: "f", N: api.MaxArity + 1},
		{N: 1, S: "a"}, {N: 1, T: "a"}, {N: 1, L: []api.Term{num(1)}}, {K: api.KAtom, S: "a", N: 1}, {K: api.KNil, N: 1}, {K: api.KNil, L: []api.Term{num(1)}}, {K: api.KPid, S: "a"},
		{K: api.KTuple, N: 1}, {K: api.KTuple, S: "a"}, {K: api.KCons}, {K: api.KCons, L: []api.Term{num(1)}}, {K: api.KCons, L: []api.Term{num(1), num(2), num(3)}},
	}
	for _, k := range []int8{-1, math.MinInt8, 8, 9, math.MaxInt8} {
		l = append(l, api.Term{K: k}, api.Term{K: k, L: []api.Term{num(1), num(2)}})
	}
	for _, x := range slices.Clone(l) {
		l = append(l, row(x), row(num(1), row(x, num(2))), pair(name("a"), x))
	}
	return l
}

// wide is a tuple of n nodes, deep one of n nodes of which each holds the next, chain conses of n nodes (n is odd).
func wide(n int) api.Term { return row(make([]api.Term, n-1)...) }

func deep(n int) api.Term {
	t := row()
	for range n - 1 {
		t = row(t)
	}
	return t
}

func chain(n int) api.Term {
	t := api.Term{K: api.KNil}
	for range n / 2 {
		t = pair(num(1), t)
	}
	return t
}

// same tells whether both are the same term, nil and empty the same.
func same(a, b api.Term) bool {
	return a.K == b.K && a.N == b.N && a.S == b.S && a.T == b.T && slices.EqualFunc(a.L, b.L, same)
}

func sameWord(a, b api.Word) bool {
	return a.Cell == b.Cell && a.At == b.At && same(a.T, b.T)
}

func wantCounts(t *testing.T, h *Heap, cells, words int) {
	t.Helper()
	if h.Len() != cells || h.Words() != words {
		t.Errorf("%d %d, not %d %d", h.Len(), h.Words(), cells, words)
	}
}

func wantCell(t *testing.T, h *Heap, n int, want api.Cell, e api.Errno) {
	t.Helper()
	c, gotE := h.Cell(n)
	if gotE != e || c.K != want.K || c.Size != want.Size || !slices.EqualFunc(c.L, want.L, sameWord) {
		t.Errorf("%d: %v %v, not %v %v", n, c, gotE, want, e)
	}
}

func wantMake(t *testing.T, h *Heap, kind int8, l []api.Word, want api.Word, e api.Errno) {
	t.Helper()
	if w, gotE := h.Make(kind, l); gotE != e || !sameWord(w, want) {
		t.Errorf("%d of %d: %v %v, not %v %v", kind, len(l), w, gotE, want, e)
	}
}

func wantPut(t *testing.T, h *Heap, x api.Term, want api.Word, e api.Errno) {
	t.Helper()
	if w, gotE := h.Put(x); gotE != e || !sameWord(w, want) {
		t.Errorf("%.200s: %v %v, not %v %v", term.Text(x), w, gotE, want, e)
	}
}

// wantRead: Take and Size tell this of a word, and May does.
func wantRead(t *testing.T, h *Heap, w api.Word, want api.Term, e api.Errno) {
	t.Helper()
	nodes := 0
	if e == api.OK {
		nodes = term.Size(want)
	}
	got, gotE := h.Take(w)
	if gotE != e || !same(got, want) {
		t.Errorf("%v: %.200s %v, not %.200s %v", w, term.Text(got), gotE, term.Text(want), e)
	}
	if n, sizeE := h.Size(w); sizeE != e || n != nodes {
		t.Errorf("%v: %d nodes %v, not %d %v", w, n, sizeE, nodes, e)
	}
	if h.May(w) != (e == api.OK) {
		t.Errorf("%v: May tells %v", w, h.May(w))
	}
}

// wrongWords are words that may not be in a heap of so many cells.
func wrongWords(cells int) []api.Word {
	l := []api.Word{at(-1), at(cells), at(cells + 1), at(math.MaxInt), at(math.MinInt), leaf(row()), leaf(row(num(1))), leaf(pair(num(1), num(2))), leaf(wide(257)), leaf(deep(257))}
	for _, x := range append(leaves(), row(), pair(num(1), num(2))) {
		if !same(x, num(0)) {
			l = append(l, api.Word{Cell: true, T: x})
		}
		for _, n := range []int{1, -1, cells, math.MaxInt, math.MinInt} {
			l = append(l, api.Word{At: n, T: x})
		}
	}
	for _, x := range wrong() {
		l = append(l, leaf(x), api.Word{Cell: true, T: x})
	}
	return append(l, api.Word{Cell: true, T: api.Term{S: "a"}}, api.Word{Cell: true, T: api.Term{T: "a"}}, api.Word{Cell: true, T: api.Term{L: []api.Term{{}}}})
}

// P4.1
func TestNew(t *testing.T) {
	h := New()
	wantCounts(t, h, 0, 0)
	for _, n := range []int{0, -1, 1, math.MaxInt, math.MinInt} {
		wantCell(t, h, n, api.Cell{}, api.ErrArg)
		wantRead(t, h, at(n), api.Term{}, api.ErrArg)
	}
	wantMake(t, h, api.KTuple, nil, at(0), api.OK)
	wantCounts(t, h, 1, 1)
	wantCounts(t, New(), 0, 0)
}

// R1: a heap that is not there.
func TestNil(t *testing.T) {
	var h *Heap
	wantCounts(t, h, 0, 0)
	for _, n := range []int{0, -1, 1} {
		wantCell(t, h, n, api.Cell{}, api.ErrNil)
	}
	for _, w := range append(wrongWords(0), leaf(num(1)), leaf(name("a")), at(0)) {
		if h.May(w) {
			t.Error(w)
		}
		wantRead(t, h, w, api.Term{}, api.ErrNil)
		wantMake(t, h, api.KTuple, []api.Word{w}, api.Word{}, api.ErrNil)
	}
	wantMake(t, h, api.KTuple, nil, api.Word{}, api.ErrNil)
	wantMake(t, h, api.KInt, nil, api.Word{}, api.ErrNil)
	wantMake(t, h, api.KTuple, ones(256), api.Word{}, api.ErrNil)
	for _, x := range []api.Term{num(1), row(), name(""), wide(257)} {
		wantPut(t, h, x, api.Word{}, api.ErrNil)
	}
}

// P4.1
func TestCell(t *testing.T) {
	h := New()
	parts := []api.Word{leaf(num(7)), leaf(name("a")), leaf(api.Term{K: api.KNil}), leaf(api.Term{K: api.KFun, S: "m", T: "f", N: 2})}
	h.Make(api.KTuple, parts)
	h.Make(api.KTuple, nil)
	h.Make(api.KCons, []api.Word{at(0), at(1)})
	h.Make(api.KTuple, []api.Word{at(2), at(2), leaf(num(1))})
	wantCell(t, h, 0, api.Cell{K: api.KTuple, Size: 5, L: parts}, api.OK)
	wantCell(t, h, 1, api.Cell{K: api.KTuple, Size: 1}, api.OK)
	wantCell(t, h, 2, api.Cell{K: api.KCons, Size: 7, L: []api.Word{at(0), at(1)}}, api.OK)
	wantCell(t, h, 3, api.Cell{K: api.KTuple, Size: 16, L: []api.Word{at(2), at(2), leaf(num(1))}}, api.OK)
	for _, n := range []int{-1, 4, 5, math.MaxInt, math.MinInt} {
		wantCell(t, h, n, api.Cell{}, api.ErrArg)
	}
	wantCounts(t, h, 4, 4+4+0+2+3)
}

// P4.1
func TestMay(t *testing.T) {
	h := New()
	for n := range 4 {
		wantRead(t, h, at(n), api.Term{}, api.ErrArg)
		h.Make(api.KTuple, nil)
		for k := range n + 1 {
			wantRead(t, h, at(k), row(), api.OK)
		}
		for _, w := range wrongWords(n + 1) {
			wantRead(t, h, w, api.Term{}, api.ErrArg)
		}
		for _, x := range leaves() {
			wantRead(t, h, leaf(x), x, api.OK)
		}
	}
	// nil and empty are the same.
	wantRead(t, h, api.Word{Cell: true, At: 1, T: api.Term{L: []api.Term{}}}, row(), api.OK)
}

// P4.1
func TestLeaf(t *testing.T) {
	want := func(x api.Term, want api.Word, e api.Errno) {
		t.Helper()
		if w, gotE := Leaf(x); gotE != e || !sameWord(w, want) {
			t.Errorf("%.200s: %v %v, not %v %v", term.Text(x), w, gotE, want, e)
		}
	}
	for _, x := range leaves() {
		want(x, leaf(x), api.OK)
	}
	for _, x := range []api.Term{row(), row(num(1)), pair(num(1), num(2)), chain(5), wide(256), wide(257), deep(256), deep(257), chain(257)} {
		want(x, api.Word{}, api.ErrArg)
	}
	for _, x := range wrong() {
		want(x, api.Word{}, api.ErrTerm)
	}
	// Behind the first MaxTerm + 1 nodes term.Check tells nothing of one that may not be.
	want(row(append(make([]api.Term, 255), name(""))...), api.Word{}, api.ErrTerm)
	want(row(append(make([]api.Term, 256), name(""))...), api.Word{}, api.ErrArg)
	// A term that holds itself.
	l := make([]api.Term, 1)
	l[0] = row(l...)
	want(row(l...), api.Word{}, api.ErrArg)
}

// P4.2
func TestMake(t *testing.T) {
	h := New()
	cells, words := 0, 0
	for _, x := range leaves() {
		wantMake(t, h, api.KTuple, []api.Word{leaf(x)}, at(cells), api.OK)
		wantMake(t, h, api.KCons, []api.Word{leaf(x), at(cells)}, at(cells+1), api.OK)
		wantMake(t, h, api.KTuple, []api.Word{at(cells + 1), leaf(x), at(cells)}, at(cells+2), api.OK)
		wantRead(t, h, at(cells+2), row(pair(x, row(x)), x, row(x)), api.OK)
		cells, words = cells+3, words+9
		wantCounts(t, h, cells, words)
	}
	for _, l := range [][]api.Word{nil, {}} {
		wantMake(t, h, api.KTuple, l, at(cells), api.OK)
		wantRead(t, h, at(cells), row(), api.OK)
		cells++
	}
}

// P4.2: the example of the chapter.
func TestMakeExample(t *testing.T) {
	h := New()
	wantMake(t, h, api.KTuple, ones(1), at(0), api.OK)
	wantMake(t, h, api.KTuple, []api.Word{at(0), at(0)}, at(1), api.OK)
	wantRead(t, h, at(1), row(row(num(1)), row(num(1))), api.OK)
	wantCounts(t, h, 2, 5)
	if n, _ := h.Size(at(1)); n != 5 {
		t.Error(n)
	}
}

// P4.2: kinds that are none, and how many parts there are.
func TestMakeKinds(t *testing.T) {
	h := New()
	for kind := math.MinInt8; kind <= math.MaxInt8; kind++ {
		for n := range 5 {
			cells, words := h.Len(), h.Words()
			if kind == int(api.KTuple) || kind == int(api.KCons) && n == 2 {
				wantMake(t, h, int8(kind), ones(n), at(cells), api.OK)
				wantCell(t, h, cells, api.Cell{K: int8(kind), Size: n + 1, L: ones(n)}, api.OK)
				wantCounts(t, h, cells+1, words+1+n)
				continue
			}
			wantMake(t, h, int8(kind), ones(n), api.Word{}, api.ErrArg)
			wantCounts(t, h, cells, words)
		}
	}
	wantMake(t, h, api.KCons, ones(256), api.Word{}, api.ErrArg)
	wantMake(t, h, api.KNil, ones(256), api.Word{}, api.ErrArg)
}

// P4.2: words that may not be, at each place, and ahead of what would be too many nodes.
func TestMakeWrong(t *testing.T) {
	h := New()
	h.Make(api.KTuple, ones(1))
	h.Make(api.KTuple, []api.Word{at(0)})
	for _, w := range wrongWords(2) {
		for _, l := range [][]api.Word{{w}, {w, at(0)}, {at(1), w}, {at(0), w, at(1)}, append(ones(255), w), append(ones(1000), w), append([]api.Word{w}, ones(300)...)} {
			wantMake(t, h, api.KTuple, l, api.Word{}, api.ErrArg)
			wantMake(t, h, api.KCons, l, api.Word{}, api.ErrArg)
		}
	}
	wantCounts(t, h, 2, 4)
	wantRead(t, h, at(1), row(row(num(1))), api.OK)
	// The cell that is to be made is not there yet.
	wantMake(t, h, api.KTuple, []api.Word{at(2)}, api.Word{}, api.ErrArg)
	wantMake(t, h, api.KTuple, []api.Word{at(1)}, at(2), api.OK)
	wantMake(t, h, api.KTuple, []api.Word{at(2)}, at(3), api.OK)
}

// P4.2: each number of nodes up to MaxTerm, and more.
func TestMakeLimit(t *testing.T) {
	h := New()
	for n := range 600 {
		if n < api.MaxTerm {
			wantMake(t, h, api.KTuple, ones(n), at(n), api.OK)
			wantRead(t, h, at(n), row(slices.Repeat([]api.Term{num(1)}, n)...), api.OK)
		} else {
			wantMake(t, h, api.KTuple, ones(n), api.Word{}, api.ErrLimit)
		}
	}
	wantMake(t, h, api.KTuple, ones(1<<16), api.Word{}, api.ErrLimit)
	// Each cell has one node more than its place.
	most := api.MaxTerm
	for n := range most {
		for _, m := range []int{0, 1, most - 5 - n, most - 4 - n, most - 3 - n, most - 2 - n, most - n, most - 1} {
			if m < 0 || m >= most {
				continue
			}
			for kind, l := range map[int8][]api.Word{api.KCons: {at(n), at(m)}, api.KTuple: {leaf(num(1)), at(n), at(m)}} {
				size := n + m + len(l) + 1
				want, e := at(h.Len()), api.OK
				if size > most {
					want, e = api.Word{}, api.ErrLimit
				}
				wantMake(t, h, kind, l, want, e)
				if got, _ := h.Size(want); e == api.OK && got != size {
					t.Error(n, m, got, size)
				}
			}
		}
	}
}

// P4.2: cells that are named twice count twice.
func TestMakeLimitShared(t *testing.T) {
	h := New()
	w, _ := h.Make(api.KTuple, nil)
	x := row()
	for size := 1; size < 255; {
		if size%2 == 0 {
			t.Fatal(size)
		}
		w, _ = h.Make(api.KCons, []api.Word{w, w})
		x, size = pair(x, x), 2*size+1
	}
	wantRead(t, h, w, x, api.OK) // 255 nodes
	cells, words := h.Len(), h.Words()
	for _, l := range [][]api.Word{{w, w}, {w, leaf(num(1))}, {leaf(num(1)), w}, slices.Repeat([]api.Word{w}, 1000)} {
		wantMake(t, h, api.KTuple, l, api.Word{}, api.ErrLimit)
		wantMake(t, h, api.KCons, l[:2], api.Word{}, api.ErrLimit)
	}
	wantCounts(t, h, cells, words)
	wantMake(t, h, api.KTuple, []api.Word{w}, at(cells), api.OK)
	wantRead(t, h, at(cells), row(x), api.OK) // 256 nodes
	wantMake(t, h, api.KTuple, []api.Word{at(cells)}, api.Word{}, api.ErrLimit)
	wantCounts(t, h, cells+1, words+2)
}

// P4.2: 2^20 cells, and one more.
func TestMakeFull(t *testing.T) {
	h := New()
	for n := range 1<<20 - 1 {
		if w, e := h.Make(api.KTuple, nil); e != api.OK || !w.Cell || w.At != n {
			t.Fatal(n, w, e)
		}
	}
	last := 1<<20 - 1
	wantMake(t, h, api.KCons, []api.Word{leaf(name("a")), at(last - 1)}, at(last), api.OK)
	for range 2 {
		wantMake(t, h, api.KTuple, nil, api.Word{}, api.ErrFull)
		wantMake(t, h, api.KTuple, ones(255), api.Word{}, api.ErrFull)
		wantMake(t, h, api.KTuple, ones(256), api.Word{}, api.ErrLimit)
		wantMake(t, h, api.KInt, nil, api.Word{}, api.ErrArg)
		wantMake(t, h, api.KCons, ones(1), api.Word{}, api.ErrArg)
		wantMake(t, h, api.KTuple, []api.Word{at(1 << 20)}, api.Word{}, api.ErrArg)
		wantCounts(t, h, 1<<20, 1<<20+2)
	}
	wantRead(t, h, at(last), pair(name("a"), row()), api.OK)
	wantRead(t, h, at(0), row(), api.OK)
	wantCell(t, h, last, api.Cell{K: api.KCons, Size: 3, L: []api.Word{leaf(name("a")), at(last - 1)}}, api.OK)
	wantCell(t, h, 1<<20, api.Cell{}, api.ErrArg)
	wantPut(t, h, num(1), leaf(num(1)), api.OK)
	wantPut(t, h, name(""), api.Word{}, api.ErrTerm)
	// The chapter names no such end of Put.
	wantPut(t, h, row(row(), num(1)), at(1<<20+1), api.OK)
	wantRead(t, h, at(1<<20+1), row(row(), num(1)), api.OK)
	wantMake(t, h, api.KTuple, nil, api.Word{}, api.ErrFull)
}
