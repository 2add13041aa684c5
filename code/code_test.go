package code

import (
	"math"
	"slices"
	"strings"
	"testing"

	"pleach/api"
	"pleach/parse"
	"pleach/term"
)

// many is how many instructions the code has that base tells.
const many = 5

// base is a code that may be, with room at its beginning for one more instruction that stands by itself.
func base() api.Prog {
	return api.Prog{
		Fns: []api.Fn{fn("f", 0, 0, 2), fn("g", 1, 1, 1), fn("h", 1, many-1, 32), fn("k", 8, 2, 8)},
		Ops: []api.Code{{Op: api.OpEnd}, {Op: api.OpLoad, A: 1}, {Op: api.OpPop}, {Op: api.OpConst, T: num(7)}, {Op: api.OpRet}},
		Tab: [][]int{{}, {0}, {0, many - 1}, {1, 1}, {2, 1, 0}},
	}
}

func fn(name string, n, at, slots int) api.Fn {
	return api.Fn{S: "m", T: name, N: n, At: at, Slots: slots}
}

// with is base's code with that instruction at its beginning.
func with(c api.Code) api.Prog {
	p := base()
	p.Ops[0] = c
	return p
}

// of is a code of those instructions.
func of(l ...api.Code) api.Prog { return api.Prog{Ops: l} }

func num(n int) api.Term { return api.Term{K: api.KInt, N: n} }

func atom(s string) api.Term { return api.Term{K: api.KAtom, S: s} }

func tuple(l ...api.Term) api.Term { return api.Term{K: api.KTuple, L: l} }

// wide is a term of so many nodes.
func wide(n int) api.Term { return tuple(slices.Repeat([]api.Term{num(1)}, n-1)...) }

// read is the term of a text.
func read(t *testing.T, s string) api.Term {
	t.Helper()
	x, used, e := term.Read(s)
	if e != api.OK || used != len(s) {
		t.Fatalf("%q: %v at %d", s, e, used)
	}
	return x
}

// pattern is that of a text.
func pattern(t *testing.T, s string) api.Node {
	t.Helper()
	n, f := parse.Pattern(s)
	if f.E != api.OK {
		t.Fatalf("%q: %v", s, f)
	}
	return n
}

// clauses are those of a text such as V0 -> []; {V1} when (V1 > V0) -> [].
func clauses(t *testing.T, s string) []api.Node {
	t.Helper()
	n, f := parse.Expr("receive " + s + " end")
	if f.E != api.OK {
		t.Fatalf("%q: %v", s, f)
	}
	return n.L
}

// guard is that of a text of tests.
func guard(t *testing.T, s string) api.Node {
	t.Helper()
	return clauses(t, "_ when "+s+" -> []")[0].L[1]
}

// wantOne holds whether an instruction may stand in base's code: by itself, and as one of it.
func wantOne(t *testing.T, c api.Code, want bool) {
	t.Helper()
	wantIn(t, base(), c, want)
	wantCheck(t, with(c), want)
}

// wantIn holds whether an instruction may stand in a code. Trees may hold themselves, so they are not told.
func wantIn(t *testing.T, p api.Prog, c api.Code, want bool) {
	t.Helper()
	if One(p, c) != want {
		t.Errorf("operation %d, A %d, B %d, %q: %v", c.Op, c.A, c.B, c.T.S, !want)
	}
}

func wantCheck(t *testing.T, p api.Prog, want bool) {
	t.Helper()
	e := Check(p)
	if e != api.OK && e != api.ErrCode || (e == api.OK) != want {
		t.Errorf("%d functions, %d instructions, %d tables: %v", len(p.Fns), len(p.Ops), len(p.Tab), e)
	}
	if !want && Text(p) != "" {
		t.Errorf("%q of a code that may not be", Text(p))
	}
}

// bounds are the least and the greatest number that may be; of a field that is to be empty both are 0.
type bounds struct{ least, most int }

// kind is an instruction that may stand in base's code, and what else its numbers may be.
type kind struct {
	c    api.Code
	a, b bounds
}

// allKinds is at least one instruction of each kind.
func allKinds(t *testing.T) []kind {
	t.Helper()
	place, one := bounds{0, many - 1}, clauses(t, "{V0, _} when is_atom(V0) -> []")
	return []kind{
		{c: api.Code{Op: api.OpConst, T: num(5)}},
		{c: api.Code{Op: api.OpConst}},
		{c: api.Code{Op: api.OpLoad, A: 1}, a: bounds{0, 31}},
		{c: api.Code{Op: api.OpStore, A: 31}, a: bounds{0, 31}},
		{c: api.Code{Op: api.OpPop}},
		{c: api.Code{Op: api.OpTuple, A: 2}, a: bounds{0, 256}},
		{c: api.Code{Op: api.OpCons}},
		{c: api.Code{Op: api.OpArith, T: atom("+")}},
		{c: api.Code{Op: api.OpArith, T: atom("rem")}},
		{c: api.Code{Op: api.OpBuilt, T: atom("self")}},
		{c: api.Code{Op: api.OpBuilt, T: atom("hd"), A: 1}, a: bounds{1, 1}},
		{c: api.Code{Op: api.OpBuilt, T: atom("exit"), A: 2}, a: bounds{1, 2}},
		{c: api.Code{Op: api.OpCall}},
		{c: api.Code{Op: api.OpCall, A: 1, B: 1}, a: bounds{1, 1}, b: bounds{1, 2}},
		{c: api.Code{Op: api.OpTail}},
		{c: api.Code{Op: api.OpTail, A: 8, B: 3}, a: bounds{8, 8}, b: bounds{3, 3}},
		{c: api.Code{Op: api.OpApply}, a: bounds{0, 8}},
		{c: api.Code{Op: api.OpRet}},
		{c: api.Code{Op: api.OpJump, A: 2}, a: place},
		{c: api.Code{Op: api.OpMatch, P: pattern(t, "{V0, _, a}"), A: 1, B: 2}, a: place, b: bounds{0, 32}},
		{c: api.Code{Op: api.OpGuard, P: guard(t, "is_atom(V3), (V0 < 1)")}, a: place},
		{c: api.Code{Op: api.OpFail, T: atom("badmatch"), B: 1}, b: bounds{0, 2}},
		{c: api.Code{Op: api.OpFail}, b: bounds{0, 2}},
		{c: api.Code{Op: api.OpTry, A: 4}, a: place},
		{c: api.Code{Op: api.OpEnd}},
		{c: api.Code{Op: api.OpRecv, L: one, B: 2, T: num(3)}, a: bounds{0, 1}, b: bounds{2, 3}},
		{c: api.Code{Op: api.OpRecv, B: 1}, a: bounds{0, 1}, b: bounds{1, 1}},
		{c: api.Code{Op: api.OpRecv, L: append(one, one...), A: 1, B: 4, T: num(32)}, a: bounds{0, 1}, b: bounds{4, 4}},
		{c: api.Code{Op: api.OpWait}},
	}
}

// numbers are those within and around bounds, and great ones.
func (b bounds) numbers() []int {
	l := []int{math.MinInt, -1 << 32, -256, 256 + b.least, 1 << 16, 1<<32 + b.least, math.MaxInt}
	for n := b.least - 3; n <= b.most+3; n++ {
		l = append(l, n)
	}
	return l
}

func (b bounds) has(n int) bool { return b.least <= n && n <= b.most }

// P13.1: of each kind what its numbers may be, and what not.
func TestNumbers(t *testing.T) {
	seen := map[int8]bool{}
	for _, k := range allKinds(t) {
		seen[k.c.Op] = true
		wantOne(t, k.c, true)
		for _, n := range k.a.numbers() {
			c := k.c
			c.A = n
			wantOne(t, c, k.a.has(n))
		}
		for _, n := range k.b.numbers() {
			c := k.c
			c.B = n
			wantOne(t, c, k.b.has(n))
		}
	}
	if len(seen) != kinds {
		t.Error(seen)
	}
}

// P13.1: operations that there are not.
func TestOperations(t *testing.T) {
	for op := math.MinInt8; op <= math.MaxInt8; op++ {
		if op < 0 || op > int(api.OpWait) {
			wantOne(t, api.Code{Op: int8(op)}, false)
			wantOne(t, api.Code{Op: int8(op), A: 1, T: atom("hd")}, false)
		}
	}
}

// names tells whether instructions of a kind name a field.
func names(op int8, field string) bool {
	return strings.Contains(map[string]string{
		"T": " const arith built fail recv ", "P": " match guard ", "L": " recv ",
	}[field], " "+words[op]+" ")
}

var words = [...]string{"const", "load", "store", "pop", "tuple", "cons", "arith", "built", "call", "tail", "apply", "ret", "jump", "match", "guard", "fail", "try", "end", "recv", "wait"}

// P13.1: fields that a kind does not name are empty; lists of nothing are, too.
func TestFilled(t *testing.T) {
	clause := clauses(t, "_ -> []")
	terms := []api.Term{{K: 1}, {N: 1}, {N: -1}, {S: "a"}, {T: "a"}, {L: []api.Term{{}}}, atom("a"), num(7), atom("+"), {K: api.KNil}, {K: -1}}
	trees := []api.Node{{K: 1}, {N: 1}, {N: -1}, {S: "a"}, {T: "a"}, {L: []api.Node{{}}}, {K: api.NdNil}, pattern(t, "V0"), guard(t, "is_atom(V0)"), {K: api.NdGuard}, {K: -1}, clause[0]}
	for _, k := range allKinds(t) {
		if !names(k.c.Op, "T") {
			for _, x := range terms {
				c := k.c
				c.T = x
				wantOne(t, c, false)
			}
			k.c.T.L = []api.Term{}
		}
		if !names(k.c.Op, "P") {
			for _, n := range trees {
				c := k.c
				c.P = n
				wantOne(t, c, false)
			}
			k.c.P.L = []api.Node{}
		}
		if !names(k.c.Op, "L") {
			for _, l := range [][]api.Node{clause, {{}}, {{K: api.NdNil}}, append(clause, clause...)} {
				c := k.c
				c.L = l
				wantOne(t, c, false)
			}
			k.c.L = []api.Node{}
		}
		wantOne(t, k.c, true)
	}
}

// P13.1: places at the beginning, at the last instruction and past it, in codes of few and of many instructions.
func TestPlaces(t *testing.T) {
	nothing := api.Node{K: api.NdGuard}
	for _, n := range []int{1, 2, 3, 100, api.MaxCode - 1, api.MaxCode} {
		p := api.Prog{Ops: append(slices.Repeat([]api.Code{{Op: api.OpPop}}, n-1), api.Code{Op: api.OpRet})}
		for _, at := range []int{math.MinInt, -n, -1, 0, n / 2, n - 1, n, n + 1, 2 * n, api.MaxCode, api.MaxCode - 1, 1 << 32, math.MaxInt} {
			want := 0 <= at && at < n
			q := api.Prog{Ops: slices.Clone(p.Ops)}
			for _, c := range []api.Code{{Op: api.OpJump, A: at}, {Op: api.OpTry, A: at}, {Op: api.OpMatch, P: pattern(t, "_"), A: at}, {Op: api.OpGuard, P: nothing, A: at}} {
				wantIn(t, p, c, want)
				if n > 1 {
					q.Ops[0] = c
					wantCheck(t, q, want)
				}
			}
			p.Fns, p.Tab = []api.Fn{fn("f", 0, at, 0)}, nil
			wantCheck(t, p, want)
			p.Fns = []api.Fn{fn("f", 0, 0, 0), fn("g", 1, at, 1)}
			wantCheck(t, p, want)
			for _, l := range [][][]int{{{at}}, {{0, at}}, {{at, 0}}, {{}, {0}, {0, at, 0}}} {
				p.Fns, p.Tab = nil, l
				wantCheck(t, p, want)
			}
			p.Fns, p.Tab = nil, nil
		}
	}
}

// P13.1: One looks at no instruction of the code but at how many there are: some that may not be change nothing.
func TestOneAlone(t *testing.T) {
	for _, p := range []api.Prog{{Ops: make([]api.Code, many)}, {Ops: slices.Repeat([]api.Code{{Op: -1, A: -7, L: []api.Node{{}}}}, many)}} {
		p.Fns, p.Tab = base().Fns, base().Tab
		for _, k := range allKinds(t) {
			wantIn(t, p, k.c, true)
			k.c.A = -1
			wantIn(t, p, k.c, false)
		}
	}
	// Of no instructions none is a place.
	for _, k := range allKinds(t) {
		p := api.Prog{Fns: base().Fns, Tab: base().Tab}
		wantIn(t, p, k.c, !slices.Contains([]int8{api.OpJump, api.OpTry, api.OpMatch, api.OpGuard}, k.c.Op))
	}
}

// P13.1: what the last instruction may be.
func TestLast(t *testing.T) {
	for _, k := range allKinds(t) {
		p := base()
		p.Ops[many-1] = k.c
		want := slices.Contains([]string{"ret", "tail", "jump", "fail"}, words[k.c.Op])
		wantCheck(t, p, want)
		p.Ops = append(p.Ops, api.Code{Op: api.OpFail, T: atom("a")})
		wantCheck(t, p, true)
		if k.c.Op == api.OpRet || k.c.Op == api.OpFail {
			wantCheck(t, of(k.c), true)
		} else if !want && k.c.A+k.c.B == 0 {
			wantCheck(t, of(k.c), false)
		}
	}
	wantCheck(t, of(api.Code{Op: api.OpJump}), true)
	wantCheck(t, of(api.Code{Op: api.OpJump, A: 1}), false)
	tail := api.Prog{Fns: []api.Fn{fn("f", 0, 0, 0)}, Ops: []api.Code{{Op: api.OpTail}}}
	wantCheck(t, tail, true)
	// What stands behind the end is no part of it.
	p := base()
	p.Ops = p.Ops[:2]
	wantCheck(t, p, false)
}

// P13.1: the codes of chapter 14's examples, and one of nothing.
func TestOrdinary(t *testing.T) {
	fail := api.Code{Op: api.OpFail, T: atom("function_clause")}
	one := api.Prog{
		Fns: []api.Fn{fn("f", 1, 0, 2)},
		Ops: []api.Code{{Op: api.OpLoad}, {Op: api.OpMatch, P: pattern(t, "V1"), A: 4, B: 1}, {Op: api.OpLoad, A: 1}, {Op: api.OpRet}, {Op: api.OpPop}, fail},
	}
	two := api.Prog{
		Fns: []api.Fn{fn("f", 0, 0, 0), fn("g", 0, 2, 0)},
		Ops: []api.Code{{Op: api.OpTail, B: 1}, fail, {Op: api.OpConst, T: num(1)}, {Op: api.OpRet}, fail},
	}
	three := api.Prog{
		Fns: []api.Fn{fn("f", 0, 0, 1)},
		Ops: []api.Code{{Op: api.OpConst, T: num(1)}, {Op: api.OpRet}},
	}
	for _, p := range []api.Prog{one, two, three, base(), {}, {Fns: []api.Fn{}, Ops: []api.Code{}, Tab: [][]int{}}, {Tab: [][]int{nil, {}}}} {
		wantCheck(t, p, true)
	}
	three.Ops[0] = api.Code{Op: api.OpJump, A: 7}
	wantCheck(t, three, false)
	two.Ops[0].B = 2
	wantCheck(t, two, false)
	one.Ops[1].A = 6
	wantCheck(t, one, false)
}
