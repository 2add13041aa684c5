package collect

import (
	"math/rand"
	"testing"

	"pleach/api"
	"pleach/heap"
	"pleach/term"
)

// grow makes a heap of some cells, some of them put, and some words of it.
func grow(r *rand.Rand) (*heap.Heap, []api.Word) {
	h := heap.New()
	word := func() api.Word {
		if n := h.Len(); n > 0 && r.Intn(4) > 0 {
			return at(n - 1 - r.Intn(min(n, 12)))
		}
		return leaf(num(r.Intn(3)))
	}
	for h.Len() < 40 {
		switch r.Intn(5) {
		case 0:
			x, _ := h.Take(word())
			h.Put(x)
		case 1, 2:
			h.Make(api.KCons, []api.Word{word(), word()})
		default:
			l := make([]api.Word, r.Intn(4))
			for i := range l {
				l[i] = word()
			}
			h.Make(api.KTuple, l)
		}
	}
	roots := make([]api.Word, r.Intn(6))
	for i := range roots {
		roots[i] = word()
		if roots[i].Cell {
			roots[i] = at(r.Intn(h.Len()))
		}
	}
	return h, roots
}

// marked are the cells that roots name, or reached ones, told by going over all cells from behind.
func marked(h *heap.Heap, roots []api.Word) []bool {
	l := make([]bool, h.Len())
	mark := func(words []api.Word) {
		for _, w := range words {
			if w.Cell {
				l[w.At] = true
			}
		}
	}
	mark(roots)
	for n := len(l) - 1; n >= 0; n-- {
		if c, _ := h.Cell(n); l[n] {
			mark(c.L)
		}
	}
	return l
}

// remade is what Run should tell, by what is marked.
func remade(t *testing.T, h *heap.Heap, roots []api.Word) (places []int, o *heap.Heap, to []api.Word) {
	o = heap.New()
	went := make([]int, h.Len())
	move := func(l []api.Word) []api.Word {
		var to []api.Word
		for _, w := range l {
			if w.Cell {
				w = at(went[w.At])
			}
			to = append(to, w)
		}
		return to
	}
	for n, m := range marked(h, roots) {
		if !m {
			continue
		}
		c, _ := h.Cell(n)
		w, e := o.Make(c.K, move(c.L))
		if e != api.OK {
			t.Fatal(n, e)
		}
		places, went[n] = append(places, n), w.At
	}
	return places, o, move(roots)
}

// P5.1, P5.3: heaps that grow at random.
func TestRandom(t *testing.T) {
	for seed := range 300 {
		h, roots := grow(rand.New(rand.NewSource(int64(seed))))
		places, o, to := remade(t, h, roots)
		wantRun(t, h, roots, places, o, to)
		wantCells(t, h, h.Len(), Cells(h))
	}
}

// P5.3: roots read as the same terms, name one cell where they did, unlike ones where they did; there are as many cells as were reached; collected again nothing moves.
func TestFollows(t *testing.T) {
	for seed := range 300 {
		h, roots := grow(rand.New(rand.NewSource(int64(1000 + seed))))
		o, to, e := Run(h, roots)
		places, _ := Reached(h, roots)
		if e != api.OK || len(to) != len(roots) || o.Len() != len(places) {
			t.Fatal(seed, e, to, roots, o.Len(), places)
		}
		for i, w := range roots {
			x, _ := h.Take(w)
			y, e := o.Take(to[i])
			if e != api.OK || !sameTerm(x, y) || !Same(h, w, o, to[i]) {
				t.Error(seed, e, term.Text(x), term.Text(y))
			}
			for j, v := range roots {
				if sameWord(w, v) != sameWord(to[i], to[j]) || w.Cell != to[i].Cell {
					t.Error(seed, w, v, to[i], to[j])
				}
				if x, _ := h.Take(v); Same(h, w, o, to[j]) != sameTerm(x, y) {
					t.Error(seed, w, v)
				}
			}
		}
		all := make([]int, o.Len())
		for i := range all {
			all[i] = i
		}
		wantRun(t, o, to, all, o, to)
	}
}

// P5.1, P5.3: a world's heap grows and is collected again and again; what its roots read as stays.
func TestRounds(t *testing.T) {
	r := rand.New(rand.NewSource(1))
	h, roots := heap.New(), []api.Word{one(), one(), one()}
	texts := []string{"1", "1", "1"}
	for round := range 200 {
		for range r.Intn(10) {
			a, b := roots[r.Intn(3)], roots[r.Intn(3)]
			if w, e := h.Make(api.KTuple, []api.Word{a, b, leaf(num(round))}); e == api.OK {
				x, _ := h.Take(w)
				i := r.Intn(3)
				roots[i], texts[i] = w, term.Text(x)
			}
		}
		if r.Intn(8) == 0 {
			roots[0], texts[0] = one(), "1"
		}
		o, to, e := Run(h, roots)
		if e != api.OK || o.Len() > h.Len() {
			t.Fatal(round, e)
		}
		for i, w := range to {
			if x, _ := o.Take(w); term.Text(x) != texts[i] {
				t.Error(round, term.Text(x), texts[i])
			}
		}
		h, roots = o, to
	}
}
