package collect

import (
	"slices"
	"testing"

	"pleach/api"
	"pleach/heap"
)

// wantCells: the iteration goes over the first n cells of the heap.
func wantCells(t *testing.T, h *heap.Heap, n int, all func(func(int, api.Cell) bool)) {
	t.Helper()
	i := 0
	for at, c := range all {
		want, e := h.Cell(i)
		if at != i || e != api.OK || !sameCell(c, want) {
			t.Errorf("%d: %v, not %d: %v %v", at, c, i, want, e)
		}
		i++
	}
	if i != n {
		t.Errorf("%d cells, not %d", i, n)
	}
}

// P5.1: all cells, by rising places.
func TestCells(t *testing.T) {
	wantCells(t, heap.New(), 0, Cells(heap.New()))
	wantCells(t, &heap.Heap{}, 0, Cells(&heap.Heap{}))
	h, _ := put(t, "{}")
	wantCells(t, h, 1, Cells(h))
	h, _ = put(t, "{a,[1,2|b],{}}", "5", "[[1],[2,3]]", "{1}", "{1}")
	wantCells(t, h, 11, Cells(h))
	h = build(t, doubled(64)...)
	wantCells(t, h, 64, Cells(h))
}

// R4: an iteration may be left early, and gone over again.
func TestCellsAgain(t *testing.T) {
	h := build(t, doubled(10)...)
	all := Cells(h)
	for _, n := range []int{1, 2, 5, 9, 10} {
		i := 0
		for at, c := range all {
			if want, _ := h.Cell(i); at != i || !sameCell(c, want) {
				t.Error(at, c, i)
			}
			if i++; i == n {
				break
			}
		}
		if i != n {
			t.Errorf("left behind %d cells, not %d", i, n)
		}
		wantCells(t, h, 10, all)
	}
	// One within another.
	n := 0
	for range all {
		wantCells(t, h, 10, all)
		n++
	}
	if n != 10 {
		t.Error(n)
	}
}

// R4: it tells what there was when the call was made.
func TestCellsBefore(t *testing.T) {
	h := build(t, doubled(3)...)
	none := Cells(heap.New())
	three := Cells(h)
	h.Make(api.KTuple, ats(2))
	four := Cells(h)
	wantCells(t, h, 3, three)
	n := 0
	for range four {
		h.Make(api.KTuple, ats(0))
		n++
	}
	if n != 4 {
		t.Error(n)
	}
	wantCells(t, h, 4, four)
	wantCells(t, h, 3, three)
	wantCells(t, h, 8, Cells(h))
	wantCells(t, h, 0, none)

	empty := heap.New()
	before := Cells(empty)
	empty.Make(api.KTuple, nil)
	wantCells(t, empty, 0, before)
	wantCells(t, empty, 1, Cells(empty))
}

// R4: the cells that are told are new memory.
func TestCellsAreNew(t *testing.T) {
	h, _ := put(t, "{{1,2},{3,4},[5|6]}", "{{7}}")
	was := told(h)
	all := Cells(h)
	var kept, want []api.Cell
	for n, c := range all {
		kept = append(kept, c)
		c, _ := h.Cell(n)
		want = append(want, c)
	}
	for _, c := range all {
		_ = append(c.L, one())
		for i := range c.L {
			c.L[i] = at(99)
		}
	}
	if told(h) != was || !slices.EqualFunc(kept, want, sameCell) {
		t.Error(told(h), was, kept, want)
	}
	wantCells(t, h, 6, all)
}
