package frame

import (
	"math"
	"reflect"
	"slices"
	"strings"
	"testing"

	"pleach/api"
	"pleach/code"
	"pleach/term"
)

func num(n int) api.Term { return api.Term{K: api.KInt, N: n} }

func tuple(l ...api.Term) api.Term { return api.Term{K: api.KTuple, L: l} }

// wide is a term of so many nodes.
func wide(n int) api.Term { return tuple(slices.Repeat([]api.Term{num(1)}, n-1)...) }

// nums are the numbers from one on, so many.
func nums(from, many int) []api.Term {
	var l []api.Term
	for n := range many {
		l = append(l, num(from+n))
	}
	return l
}

// badTerms are some that may not be, by each rule.
func badTerms() []api.Term {
	own := tuple(num(1), num(2))
	own.L[1] = own
	return []api.Term{
		num(api.MaxInt + 1), num(-api.MaxInt - 2), num(math.MinInt), {K: api.KInt, S: "a"},
		atom(""), atom("A"), atom(strings.Repeat("a", 33)), {K: api.KAtom, S: "a", N: 1},
		{K: api.KPid, N: -1}, {K: api.KRef, N: api.MaxInt + 1}, {K: api.KFun, S: "m", T: "f", N: 9}, {K: api.KFun},
		{K: api.KNil, L: []api.Term{{}}}, {K: api.KCons, L: []api.Term{{}}}, {K: -1}, {K: 8}, {K: math.MaxInt8}, {K: math.MinInt8},
		tuple(num(1), tuple(atom("A"))), wide(api.MaxTerm + 1), wide(1 << 16), own,
	}
}

// goodTerms are some that may be, at their bounds.
func goodTerms() []api.Term {
	return []api.Term{
		{}, num(api.MaxInt), num(-api.MaxInt - 1), atom("a"), atom(strings.Repeat("a", 32)), {K: api.KPid}, {K: api.KRef, N: api.MaxInt},
		{K: api.KFun, S: "m", T: "f", N: 8}, {K: api.KNil}, {K: api.KCons, L: []api.Term{{}, {}}}, tuple(), wide(api.MaxTerm),
	}
}

// arities and slots of base's functions.
var base = [...]struct{ n, slots int }{{0, 0}, {0, 2}, {1, 1}, {1, 3}, {3, 4}, {8, 8}, {8, 32}, {0, 32}}

// many is how many instructions base's code has.
const many = 5

// prog is a code that may be, with functions of few and many arguments and slots, which begin everywhere.
func prog() api.Prog {
	p := api.Prog{
		Ops: []api.Code{{Op: api.OpConst}, {Op: api.OpPop}, {Op: api.OpConst, T: atom("a")}, {Op: api.OpEnd}, {Op: api.OpRet}},
		Tab: [][]int{{0, 4}},
	}
	for i, b := range base {
		p.Fns = append(p.Fns, api.Fn{S: "m", T: "f" + string(rune('a'+i)), N: b.n, At: (i + 3) % many, Slots: b.slots})
	}
	return p
}

// same holds two values against each other: lists of nothing and none are alike.
func same(a, b any) bool { return alike(reflect.ValueOf(a), reflect.ValueOf(b)) }

func alike(a, b reflect.Value) bool {
	switch a.Kind() {
	case reflect.Slice:
		if a.Len() != b.Len() {
			return false
		}
		for i := range a.Len() {
			if !alike(a.Index(i), b.Index(i)) {
				return false
			}
		}
		return true
	case reflect.Struct:
		for i := range a.NumField() {
			if !alike(a.Field(i), b.Field(i)) {
				return false
			}
		}
		return true
	}
	return a.Interface() == b.Interface()
}

// wantEnter holds what Enter answers: the frame that the chapter tells, or none.
func wantEnter(t *testing.T, p api.Prog, fn int, args []api.Term, ok bool) {
	t.Helper()
	f, e := Enter(p, fn, args)
	var want api.Frame
	if ok {
		rest := p.Fns[fn].Slots - len(args)
		want = api.Frame{
			Kind: api.FrCode, Fn: fn, Pc: p.Fns[fn].At, Wait: -1,
			Slots: slices.Concat(args, make([]api.Term, rest)),
			Bound: slices.Concat(slices.Repeat([]bool{true}, len(args)), make([]bool, rest)),
		}
		if e != api.OK || Check(p, f) != api.OK {
			t.Errorf("function %d of %d arguments: %v, %v", fn, len(args), e, Check(p, f))
		}
	} else if e != api.ErrArg {
		t.Errorf("function %d of %d arguments: %v", fn, len(args), e)
	}
	if !same(f, want) {
		t.Errorf("function %d of %d arguments: %v", fn, len(args), f)
	}
}

// P15.1: each function with as many arguments, with fewer and with more.
func TestEnter(t *testing.T) {
	p := prog()
	if e := code.Check(p); e != api.OK {
		t.Fatal(e)
	}
	for fn, b := range base {
		for n := range api.MaxArity + 3 {
			wantEnter(t, p, fn, nums(7, n), n == b.n)
		}
		wantEnter(t, p, fn, nums(7, b.slots), b.slots == b.n)
		wantEnter(t, p, fn, nums(7, 1000), false)
		wantEnter(t, p, fn, []api.Term{}, b.n == 0)
	}
}

// P15.1: places that no function has.
func TestEnterPlaces(t *testing.T) {
	p := prog()
	for _, fn := range []int{math.MinInt, -1 << 32, -len(base), -2, -1, len(base), len(base) + 1, 1 << 32, math.MaxInt} {
		for _, n := range []int{0, 1, 8} {
			wantEnter(t, p, fn, nums(7, n), false)
		}
	}
	wantEnter(t, api.Prog{Ops: p.Ops}, 0, nil, false)
	wantEnter(t, api.Prog{}, 0, nil, false)
	// A function of which there is one alone.
	p.Fns = p.Fns[:1]
	wantEnter(t, p, 0, nil, true)
	wantEnter(t, p, 1, nil, false)
}

// P15.1: at each place of the arguments one that may be, and one that may not be.
func TestEnterTerms(t *testing.T) {
	p := prog()
	for fn, b := range base {
		for at := range b.n {
			args := nums(7, b.n)
			for _, x := range goodTerms() {
				args[at] = x
				wantEnter(t, p, fn, args, true)
			}
			for _, x := range badTerms() {
				args[at] = x
				wantEnter(t, p, fn, args, false)
			}
		}
	}
}

// P15.1: codes that may not be, whatever is wrong, and wherever.
func TestEnterCodes(t *testing.T) {
	wrong := func(change func(*api.Prog)) {
		t.Helper()
		p := prog()
		change(&p)
		for fn, b := range base {
			wantEnter(t, p, fn, nums(7, b.n), false)
		}
	}
	wrong(func(p *api.Prog) { p.Ops[4].Op = api.OpPop })
	wrong(func(p *api.Prog) { p.Ops[1].A = 1 })
	wrong(func(p *api.Prog) { p.Ops[0].Op = -1 })
	wrong(func(p *api.Prog) { p.Ops[2].T = atom("A") })
	wrong(func(p *api.Prog) { p.Ops = nil })
	wrong(func(p *api.Prog) { p.Ops = make([]api.Code, api.MaxCode+1) })
	wrong(func(p *api.Prog) { p.Tab[0][1] = many })
	wrong(func(p *api.Prog) { p.Tab[0][0] = -1 })
	wrong(func(p *api.Prog) { p.Fns[0].At = many })
	wrong(func(p *api.Prog) { p.Fns[7].At = -1 })
	wrong(func(p *api.Prog) { p.Fns[7].Slots = 33 })
	wrong(func(p *api.Prog) { p.Fns[1].T = p.Fns[0].T })
	wrong(func(p *api.Prog) { p.Fns[3].S = "M" })

	// What is asked of it alone: that would be a frame of no or of less room than it has arguments.
	for _, slots := range []int{math.MinInt, -1, 0, 2, 1 << 40} {
		p := prog()
		p.Fns[4].Slots = slots
		wantEnter(t, p, 4, nums(7, 3), false)
	}
	p := prog()
	p.Fns[0].N = -1
	wantEnter(t, p, 0, nil, false)
	p.Fns[0].N, p.Fns[0].Slots = 9, 9
	wantEnter(t, p, 0, nums(7, 9), false)
}

// P15.1: the last function and the last instruction of the longest code that may be.
func TestEnterLong(t *testing.T) {
	p := api.Prog{Ops: slices.Repeat([]api.Code{{Op: api.OpRet}}, api.MaxCode)}
	for i := range api.MaxCode {
		p.Fns = append(p.Fns, api.Fn{S: "m", T: "f" + strings.Repeat("a", i%31), N: i % 9, At: i, Slots: 32})
		p.Fns[i].S = "m" + string(rune('a'+i%26)) + string(rune('a'+i/26%26)) + string(rune('a'+i/676))
	}
	for _, fn := range []int{0, 1, 255, 256, api.MaxCode - 1} {
		wantEnter(t, p, fn, nums(7, fn%9), true)
	}
	wantEnter(t, p, api.MaxCode, nil, false)
}

// classes are all numbers that a class could be.
func classes() []int8 {
	var l []int8
	for c := math.MinInt8; c <= math.MaxInt8; c++ {
		l = append(l, int8(c))
	}
	return l
}

// nameOf is a class's name, as the chapter tells it.
func nameOf(class int8) string {
	return map[int8]string{api.ClError: "error", api.ClExit: "exit", api.ClThrow: "throw"}[class] + map[bool]string{true: "none"}[class < 1 || class > 3]
}

// P15.3: all numbers.
func TestAtom(t *testing.T) {
	for _, c := range classes() {
		if x := Atom(c); !same(x, api.Term{K: api.KAtom, S: nameOf(c)}) {
			t.Errorf("%d: %v", c, x)
		}
	}
	for class, want := range map[int8]string{0: "none", 1: "error", 2: "exit", 3: "throw", 4: "none", -1: "none"} {
		if x := Atom(class); x.S != want || term.Check(x) != api.OK {
			t.Errorf("%d: %v", class, x)
		}
	}
}

// P15.3: the three names, and others.
func TestClass(t *testing.T) {
	for name, want := range map[string]int8{"error": api.ClError, "exit": api.ClExit, "throw": api.ClThrow} {
		if got := Class(name); got != want || Atom(got).S != name {
			t.Errorf("%s: %d", name, got)
		}
		for _, s := range []string{name + " ", " " + name, name + "s", name[1:], name[:len(name)-1], name + "\x00", strings.ToUpper(name), strings.ToUpper(name[:1]) + name[1:], name + name} {
			if got := Class(s); got != api.ClNone {
				t.Errorf("%q: %d", s, got)
			}
		}
	}
	for _, s := range []string{"", "none", "nocatch", "system_limit", "x", "1", "err", strings.Repeat("error", 1<<16), "\xff", "é"} {
		if got := Class(s); got != api.ClNone {
			t.Errorf("%q: %d", s, got)
		}
	}
}

// P15.3: the reason of each class, with terms at the limit and past it.
func TestReason(t *testing.T) {
	for _, c := range classes() {
		tag := atom("error")
		if c == api.ClThrow {
			tag = atom("nocatch")
		}
		// The pair's own node and its tag's go beside the term's nodes.
		for _, n := range []int{1, 2, 3, 100, 128, 252, 253, 254, 255, 256} {
			x, want := wide(n), atom("system_limit")
			if n <= api.MaxTerm-2 {
				want = tuple(tag, x)
			}
			if c == api.ClExit {
				want = x
			}
			if got := Reason(c, x); !same(got, want) || term.Check(got) != api.OK {
				t.Errorf("class %d, %d nodes: %s", c, n, term.Text(got))
			}
		}
	}
	for class, want := range map[int8]string{api.ClError: "{error,badarg}", api.ClExit: "badarg", api.ClThrow: "{nocatch,badarg}", api.ClNone: "{error,badarg}", 4: "{error,badarg}", -1: "{error,badarg}"} {
		if got := term.Text(Reason(class, atom("badarg"))); got != want {
			t.Errorf("%d: %s", class, got)
		}
	}
}

// P15.3: a term that may not be is in no pair that may be; an exit's term is as it is.
func TestReasonWrong(t *testing.T) {
	for i, x := range badTerms() {
		for _, c := range []int8{api.ClError, api.ClThrow, api.ClNone, 77, -128} {
			if got := Reason(c, x); !same(got, atom("system_limit")) {
				t.Errorf("class %d, term %d: %s", c, i, term.Text(got))
			}
		}
		if got := Reason(api.ClExit, x); got.K != x.K || got.N != x.N || got.S != x.S || len(got.L) != len(x.L) {
			t.Errorf("term %d: %d", i, got.K)
		}
	}
}
