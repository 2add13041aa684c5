package heap

import (
	"fmt"
	"math/rand"
	"slices"
	"testing"

	"pleach/api"
	"pleach/term"
)

func read(t *testing.T, s string) api.Term {
	t.Helper()
	x, used, e := term.Read(s)
	if e != api.OK || used != len(s) {
		t.Fatal(s, used, e)
	}
	return x
}

// P4.3: terms without parts are no cells.
func TestPutLeaf(t *testing.T) {
	h := New()
	for _, x := range leaves() {
		wantPut(t, h, x, leaf(x), api.OK)
		wantRead(t, h, leaf(x), x, api.OK)
	}
	wantCounts(t, h, 0, 0)
}

// P4.3: parts first, from the first one on.
func TestPutOrder(t *testing.T) {
	h := New()
	wantPut(t, h, read(t, "{{1,{2}},[a,b|{}],3,{}}"), at(6), api.OK)
	for n, s := range []string{"{2}", "{1,{2}}", "{}", "[b|{}]", "[a,b|{}]", "{}", "{{1,{2}},[a,b|{}],3,{}}"} {
		wantRead(t, h, at(n), read(t, s), api.OK)
	}
	wantCell(t, h, 6, api.Cell{K: api.KTuple, Size: 12, L: []api.Word{at(1), at(4), leaf(num(3)), at(5)}}, api.OK)
	wantCell(t, h, 4, api.Cell{K: api.KCons, Size: 5, L: []api.Word{leaf(name("a")), at(3)}}, api.OK)
	wantCell(t, h, 1, api.Cell{K: api.KTuple, Size: 4, L: []api.Word{leaf(num(1)), at(0)}}, api.OK)
	wantPut(t, h, read(t, "[[1],2]"), at(9), api.OK)
	for n, s := range []string{"[1]", "[2]", "[[1],2]"} {
		wantRead(t, h, at(7+n), read(t, s), api.OK)
	}
	wantCounts(t, h, 10, 10+1+2+0+2+2+0+4+2+2+2)
}

// P4.3: nothing is shared, whether parts are equal, or the same memory, or were there before.
func TestPutAnew(t *testing.T) {
	h := New()
	wantPut(t, h, row(), at(0), api.OK)
	wantPut(t, h, row(), at(1), api.OK)
	wantPut(t, h, row(row(), row()), at(4), api.OK)
	wantCell(t, h, 4, api.Cell{K: api.KTuple, Size: 3, L: []api.Word{at(2), at(3)}}, api.OK)
	x := pair(num(1), num(2))
	wantPut(t, h, row(x, x, x), at(8), api.OK)
	wantCell(t, h, 8, api.Cell{K: api.KTuple, Size: 10, L: []api.Word{at(5), at(6), at(7)}}, api.OK)
	wantPut(t, h, pair(x, x), at(11), api.OK)
	wantCell(t, h, 11, api.Cell{K: api.KCons, Size: 7, L: []api.Word{at(9), at(10)}}, api.OK)
	y := row(x, x)
	wantPut(t, h, row(y, y), at(18), api.OK)
	wantCell(t, h, 18, api.Cell{K: api.KTuple, Size: 15, L: []api.Word{at(14), at(17)}}, api.OK)
	wantCounts(t, h, 19, 19+2+3*2+3+2*2+2+4*2+3*2)
}

// P4.3: MaxTerm nodes, and one more.
func TestPutLimit(t *testing.T) {
	h := New()
	for _, x := range []api.Term{wide(254), wide(255), wide(256), deep(255), deep(256), chain(255), row(chain(255)), row(wide(255)), row(deep(127), num(1), wide(127)), pair(wide(100), wide(155))} {
		w, e := h.Put(x)
		if e != api.OK || !w.Cell || w.At != h.Len()-1 {
			t.Error(w, e)
		}
		wantRead(t, h, w, x, api.OK)
	}
	cells, words := h.Len(), h.Words()
	l := make([]api.Term, 1)
	l[0] = row(l...)
	for _, x := range []api.Term{wide(257), wide(1 << 16), deep(257), deep(1 << 12), chain(257), row(deep(127), num(1), wide(128)), pair(wide(100), wide(156)), row(append(make([]api.Term, 256), name(""))...), row(l...)} {
		wantPut(t, h, x, api.Word{}, api.ErrLimit)
	}
	wantCounts(t, h, cells, words)
}

// P4.3: term.Check's error, wherever the fault stands, and nothing is put of what stands ahead.
func TestPutWrong(t *testing.T) {
	h := New()
	h.Put(row(num(1)))
	for _, x := range wrong() {
		wantPut(t, h, x, api.Word{}, api.ErrTerm)
		wantPut(t, h, row(row(num(1)), chain(5), x), api.Word{}, api.ErrTerm)
		wantPut(t, h, pair(x, row()), api.Word{}, api.ErrTerm)
		wantPut(t, h, row(x, wide(300)), api.Word{}, api.ErrTerm)
	}
	wantPut(t, h, row(append(make([]api.Term, 255), name(""))...), api.Word{}, api.ErrTerm)
	wantCounts(t, h, 1, 2)
	wantPut(t, h, row(), at(1), api.OK)
}

// R4: what is handed in is neither changed nor kept, the room behind it included.
func TestKeepsNothing(t *testing.T) {
	h := New()
	behind := []api.Term{num(5), num(6)}
	free := api.Word{T: api.Term{K: api.KNil, L: behind[:0]}}
	room := []api.Word{leaf(num(1)), at(0), free, leaf(num(9))}
	h.Make(api.KTuple, nil)
	w, _ := h.Make(api.KTuple, room[:3])
	want := row(num(1), row(), api.Term{K: api.KNil})
	room[0], room[1], room[2] = leaf(num(8)), at(1), at(1)
	wantRead(t, h, w, want, api.OK)
	if !sameWord(room[3], leaf(num(9))) {
		t.Error("changed", room[3])
	}

	parts := []api.Term{num(1), row(num(2)), num(3)}
	x := row(parts[:2]...)
	w, _ = h.Put(x)
	parts[0], parts[1].L[0] = name("x"), name("y")
	wantRead(t, h, w, row(num(1), row(num(2))), api.OK)
	if !same(parts[2], num(3)) {
		t.Error("changed", parts[2])
	}

	// A list without items may have room: it comes out nowhere.
	a, _ := Leaf(free.T)
	b, _ := h.Put(free.T)
	c, _ := h.Take(free)
	d, _ := h.Cell(1)
	e, _ := h.Take(at(1))
	for _, l := range [][]api.Term{a.T.L, b.T.L, c.L, d.L[2].T.L, e.L[2].L} {
		_ = append(l, num(0))
	}
	if !same(row(behind...), row(num(5), num(6))) {
		t.Error("changed", behind)
	}
}

// R4: what is told is new memory.
func TestAnswersAreNew(t *testing.T) {
	h := New()
	h.Put(read(t, "{{1,2},{3,4},[5|6]}"))
	h.Make(api.KTuple, []api.Word{at(3), at(0), at(0)})
	before := told(h)
	for n := range h.Len() {
		c, _ := h.Cell(n)
		d, _ := h.Cell(n)
		_ = append(c.L, leaf(name("x")))
		_ = append(c.L[:1], leaf(name("x")))
		c.L[0] = at(99)
		wantCell(t, h, n, d, api.OK)
		x, _ := h.Take(at(n))
		y, _ := h.Take(at(n))
		spoil(x)
		wantRead(t, h, at(n), y, api.OK)
	}
	if after := told(h); after != before {
		t.Error(after, before)
	}
}

// told is what a heap tells of all its cells.
func told(h *Heap) string {
	s := fmt.Sprint(h.Len(), h.Words())
	for n := range h.Len() {
		c, _ := h.Cell(n)
		x, _ := h.Take(at(n))
		s += fmt.Sprint(c, term.Text(x))
	}
	return s
}

// spoil writes over all parts, and behind them.
func spoil(x api.Term) {
	for i := range x.L {
		spoil(x.L[i])
		x.L[i] = name("x")
	}
	_ = append(x.L, name("x"))
}

// P4.4, R4: a cell that is named twice is read twice; no two lists of the term share memory.
func TestTakeShared(t *testing.T) {
	h := New()
	h.Make(api.KTuple, ones(3))
	h.Make(api.KCons, []api.Word{at(0), at(0)})
	h.Make(api.KTuple, []api.Word{at(1), at(0), at(1)})
	one := row(num(1), num(1), num(1))
	wantRead(t, h, at(2), row(pair(one, one), one, pair(one, one)), api.OK)
	x, _ := h.Take(at(2))
	x.L[0].L[0].L[0] = name("x")
	_ = append(x.L[0].L[0].L, name("y"))
	_ = append(x.L[1].L[:1], name("z"))
	other := row(num(1), name("z"), num(1))
	if !same(x, row(pair(row(name("x"), num(1), num(1)), one), other, pair(one, one))) {
		t.Error(term.Text(x))
	}
}

// P4.4: what shares cells is read as what does not.
func TestSharedOrNot(t *testing.T) {
	h := New()
	h.Make(api.KTuple, ones(1))
	shared, _ := h.Make(api.KTuple, []api.Word{at(0), at(0)})
	plain, _ := h.Put(read(t, "{{1},{1}}"))
	x, _ := h.Take(shared)
	y, _ := h.Take(plain)
	n, _ := h.Size(shared)
	m, _ := h.Size(plain)
	if !same(x, y) || n != m {
		t.Error(term.Text(x), term.Text(y), n, m)
	}
	w, _ := h.Put(x)
	wantRead(t, h, w, y, api.OK)
	wantCounts(t, h, 2+3+3, 2+3+2*(3+1+1+2))
}

// random are a few cells of a heap, with the terms that they are.
type random struct {
	*rand.Rand
	h     *Heap
	cells []api.Cell
	terms []api.Term
	words int
}

func (r *random) word() (api.Word, api.Term) {
	if len(r.cells) > 0 && r.Intn(3) > 0 {
		n := len(r.cells) - 1 - r.Intn(min(len(r.cells), 8))
		return at(n), r.terms[n]
	}
	l := leaves()
	x := l[r.Intn(len(l))]
	return leaf(x), x
}

func (r *random) grow(kind int8, l []api.Word, parts []api.Term) {
	x := api.Term{K: kind, L: parts}
	r.cells = append(r.cells, api.Cell{K: kind, Size: term.Size(x), L: l})
	r.terms = append(r.terms, x)
	r.words += 1 + len(l)
}

// make makes a cell of words there are, if it is not too great.
func (r *random) make(t *testing.T) {
	kind, n := api.KTuple, r.Intn(5)
	if r.Intn(2) == 0 {
		kind, n = api.KCons, 2
	}
	l, parts := make([]api.Word, n), make([]api.Term, n)
	for i := range l {
		l[i], parts[i] = r.word()
	}
	if term.Size(row(parts...)) > api.MaxTerm {
		wantMake(t, r.h, kind, l, api.Word{}, api.ErrLimit)
		return
	}
	wantMake(t, r.h, kind, l, at(len(r.cells)), api.OK)
	r.grow(kind, l, parts)
}

// put puts a term that is there already.
func (r *random) put(t *testing.T) {
	_, x := r.word()
	var put func(x api.Term) api.Word
	put = func(x api.Term) api.Word {
		if x.K != api.KTuple && x.K != api.KCons {
			return leaf(x)
		}
		var l []api.Word
		for _, p := range x.L {
			l = append(l, put(p))
		}
		r.grow(x.K, l, x.L)
		return at(len(r.cells) - 1)
	}
	wantPut(t, r.h, x, put(x), api.OK)
}

// P4.4: Take of Put is the term; a cell that is made changes none that was there; what shares cells is read as if it did not.
func TestRandom(t *testing.T) {
	for seed := range 60 {
		r := &random{Rand: rand.New(rand.NewSource(int64(seed))), h: New()}
		for i := range 40 {
			if i%7 == 6 {
				r.put(t)
			} else {
				r.make(t)
			}
			wantCounts(t, r.h, len(r.cells), r.words)
		}
		for n, c := range r.cells {
			wantCell(t, r.h, n, c, api.OK)
			wantRead(t, r.h, at(n), r.terms[n], api.OK)
		}
		wantCell(t, r.h, len(r.cells), api.Cell{}, api.ErrArg)
	}
}

// P4.4: after each cell all earlier ones are what they were.
func TestEarlierCellsStay(t *testing.T) {
	h := New()
	var want []api.Term
	for n := range 100 {
		x := row(slices.Repeat([]api.Term{num(n)}, n%5)...)
		if n%2 == 0 {
			h.Put(x)
		} else {
			h.Make(api.KTuple, slices.Repeat([]api.Word{leaf(num(n))}, n%5))
		}
		want = append(want, x)
		for k, x := range want {
			wantRead(t, h, at(k), x, api.OK)
		}
	}
}

// P4.4: what is appended to a cell's parts never runs into the next cell's.
func TestCut(t *testing.T) {
	h := New()
	for range 20 {
		h.Put(read(t, "{{1,2},{},[3|4]}"))
	}
	before := told(h)
	for _, c := range h.cells {
		_ = append(c.L, leaf(name("x")))
	}
	if after := told(h); after != before {
		t.Error(after, before)
	}
}

// R3: heaps know nothing of one another.
func TestTwoHeaps(t *testing.T) {
	a, b := New(), New()
	wantPut(t, a, read(t, "{{1},2}"), at(1), api.OK)
	wantCounts(t, b, 0, 0)
	wantRead(t, b, at(0), api.Term{}, api.ErrArg)
	wantPut(t, b, read(t, "[a|b]"), at(0), api.OK)
	wantRead(t, a, at(0), row(num(1)), api.OK)
	wantRead(t, b, at(0), pair(name("a"), name("b")), api.OK)
	wantMake(t, b, api.KTuple, []api.Word{at(1)}, api.Word{}, api.ErrArg)
	wantCounts(t, a, 2, 5)
}
