package collect

import (
	"testing"

	"pleach/api"
	"pleach/heap"
)

// filled is a heap of so many cells: {}, {cell 0, cell 0}, {}, {cell 2, cell 2} and so on.
func filled(t *testing.T, n int) *heap.Heap {
	t.Helper()
	h := heap.New()
	for i := range n {
		var l []api.Word
		if i%2 == 1 {
			l = ats(i-1, i-1)
		}
		if w, e := h.Make(api.KTuple, l); e != api.OK || w.At != i {
			t.Fatal(i, w, e)
		}
	}
	return h
}

// wantCopy: all cells of h were reached, and o is as h is, cell by cell.
func wantCopy(t *testing.T, h, o *heap.Heap) {
	t.Helper()
	if o.Len() != h.Len() || o.Words() != h.Words() {
		t.Fatal(o.Len(), h.Len(), o.Words(), h.Words())
	}
	for n, c := range Cells(h) {
		if d, e := o.Cell(n); e != api.OK || !sameCell(c, d) {
			t.Fatal(n, c, d, e)
		}
	}
}

// P5.1: a heap of 2^20 cells: all, none, every other one, the first, the last.
func TestFullHeap(t *testing.T) {
	t.Parallel()
	cells := 1 << 20
	h := filled(t, cells)
	var all []api.Word
	for n := range cells {
		all = append(all, at(cells-1-n))
	}
	o, to, e := Run(h, all)
	if e != api.OK || len(to) != cells {
		t.Fatal(len(to), e)
	}
	for n, w := range to {
		if !sameWord(w, all[n]) {
			t.Fatal(n, w)
		}
	}
	wantCopy(t, h, o)
	// What is full stays full.
	if _, e := o.Make(api.KTuple, nil); e != api.ErrFull {
		t.Error(e)
	}

	var even, odd []api.Word
	for n := range cells / 2 {
		even, odd = append(even, at(2*n)), append(odd, at(2*n+1))
	}
	o, to, e = Run(h, even)
	if e != api.OK || o.Len() != cells/2 || o.Words() != cells/2 || to[cells/2-1].At != cells/2-1 {
		t.Error(o.Len(), e)
	}
	if w, e := o.Make(api.KTuple, ats(5)); e != api.OK || w.At != cells/2 {
		t.Error(w, e)
	}
	o, _, e = Run(h, odd)
	if e != api.OK {
		t.Fatal(e)
	}
	wantCopy(t, h, o)

	if l, e := Reached(h, all); e != api.OK || len(l) != cells || l[0] != 0 || l[cells-1] != cells-1 {
		t.Error(len(l), e)
	}
	wantGreat(t, h, nil, nil)
	wantGreat(t, h, ats(0), []int{0})
	wantGreat(t, h, ats(cells-1), []int{cells - 2, cells - 1})
	wantTooFar(t, h, ats(0, cells))
	n := 0
	for i, c := range Cells(h) {
		if i != n || c.Size != 1+i%2*2 {
			t.Fatal(i, n, c)
		}
		n++
	}
	if n != cells || h.Len() != cells || h.Words() != 2*cells {
		t.Error(n, h.Len(), h.Words())
	}
}

// wantGreat: just these places are reached, and as many cells are collected; roots read as the same terms.
func wantGreat(t *testing.T, h *heap.Heap, roots []api.Word, places []int) {
	t.Helper()
	l, e := Reached(h, roots)
	o, to, f := Run(h, roots)
	if e != api.OK || f != api.OK || len(to) != len(roots) || len(l) != len(places) || o.Len() != len(places) {
		t.Fatal(roots, l, e, to, f)
	}
	for i := range l {
		if c, _ := h.Cell(places[i]); l[i] != places[i] || !sizes(o, i, c) {
			t.Error(i, l[i], places[i], c)
		}
	}
	for i := range to {
		if !Same(h, roots[i], o, to[i]) {
			t.Error(roots[i], to[i])
		}
	}
}

// sizes tells whether the cell there has that one's kind and size.
func sizes(h *heap.Heap, n int, c api.Cell) bool {
	d, e := h.Cell(n)
	return e == api.OK && d.K == c.K && d.Size == c.Size
}

// wantTooFar is wantError of roots that name no cell, and of a heap too great to be told whole.
func wantTooFar(t *testing.T, h *heap.Heap, roots []api.Word) {
	t.Helper()
	o, to, e := Run(h, roots)
	l, f := Reached(h, roots)
	if o != nil || len(to) != 0 || e != api.ErrArg || len(l) != 0 || f != api.ErrArg {
		t.Error(to, e, l, f)
	}
}

// above is a heap that Make filled up to some cells below its end, and Put above it.
func above(t *testing.T, free int) (*heap.Heap, []api.Word) {
	t.Helper()
	h := filled(t, 1<<20-free)
	var tops []api.Word
	for _, s := range []string{"{{1},[2,{3}|4],{}}", "{5}", "{{{6}},{{{7}},[8|9]}}", "{}", "[{},{{}}]"} {
		w, e := h.Put(read(t, s))
		if e != api.OK {
			t.Fatal(e)
		}
		tops = append(tops, w)
	}
	return h, tops
}

// P5.1, P5.3: heaps grow behind 2^20 cells by Put; these are collected like others, wherever in a term the 2^20th cell stands.
func TestAbove(t *testing.T) {
	t.Parallel()
	for _, free := range []int{0, 3, 6, 11} {
		h, tops := above(t, free)
		var made []api.Word
		for n := range 1<<20 - free {
			made = append(made, at(n))
		}
		roots := append(made, tops...)
		o, to, e := Run(h, roots)
		if e != api.OK || len(to) != len(roots) {
			t.Fatal(free, e)
		}
		for n, w := range to {
			if !sameWord(w, roots[n]) {
				t.Fatal(free, n, w, roots[n])
			}
		}
		wantCopy(t, h, o)
	}
}

// P5.1: of what was put behind 2^20 cells some is reached, from within its terms, too.
func TestAbovePart(t *testing.T) {
	t.Parallel()
	h, tops := above(t, 3)
	first := 1<<20 - 3
	var made []api.Word
	for n := range first {
		made = append(made, at(n))
	}
	// The terms' own cells are those at first + 5, 6, 13, 14 and 19.
	for _, x := range []struct {
		roots, places []int
	}{
		{nil, nil},
		{[]int{5}, []int{0, 1, 2, 3, 4, 5}},
		{[]int{3, 12}, []int{1, 2, 3, 9, 10, 11, 12}},
		{[]int{8, 10, 11, 0, 2, 14}, []int{0, 1, 2, 7, 8, 9, 10, 11, 14}},
		{[]int{7, 13, 4}, []int{4, 7, 8, 9, 10, 11, 12, 13}},
	} {
		roots := made
		for _, n := range x.roots {
			roots = append(roots, at(first+n))
		}
		o, to, e := Run(h, roots)
		if e != api.OK || len(to) != len(roots) || o.Len() != first+len(x.places) {
			t.Fatal(x, e, len(to), o.Len())
		}
		rank := map[int]int{}
		for i, n := range x.places {
			c, _ := h.Cell(first + n)
			if rank[n] = first + i; !sizes(o, first+i, c) || !Same(h, at(first+n), o, at(first+i)) {
				t.Error(x, n, c)
			}
		}
		for i, n := range x.roots {
			if w := to[first+i]; !sameWord(w, at(rank[n])) {
				t.Error(x, n, w)
			}
		}
	}
	last := tops[len(tops)-1].At
	wantGreat(t, h, tops[4:], []int{last - 4, last - 3, last - 2, last - 1, last})
	wantGreat(t, h, tops[1:2], []int{first + 6})
	wantTooFar(t, h, ats(last+1))
}
