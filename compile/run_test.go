package compile

import (
	"math/rand"
	"slices"
	"testing"

	"pleach/api"
	"pleach/ast"
	"pleach/code"
	"pleach/eval"
	"pleach/guard"
	"pleach/match"
	"pleach/term"
)

// level is a call that is run: where it is, its slots (those that are bound), its operands, its handlers.
type level struct {
	at    int
	slots map[int]api.Term
	stack []api.Term
	tries []api.Try
}

// runner runs code as api's words on the instructions say, with messages that wait, as if each time were over at once.
type runner struct {
	t      *testing.T
	p      api.Prog
	mail   []api.Term
	levels []*level
	wait   bool
	out    string
	left   int
}

var classNames = []string{"none", "error", "exit", "throw"}

// run is what a call comes to: the text of a value, of an exception, or why there is none.
func run(t *testing.T, p api.Prog, f api.Fn, args []api.Term, mail []api.Term) string {
	t.Helper()
	at, ok := code.Find(p, f.S, f.T, f.N)
	if !ok || len(args) != f.N {
		t.Fatalf("no %s:%s/%d", f.S, f.T, f.N)
	}
	r := &runner{t: t, p: p, mail: mail, left: 20000}
	r.call(at, args)
	for r.out == "" {
		if r.left--; r.left < 0 {
			return "fuel"
		}
		r.unit()
	}
	return r.out
}

func (r *runner) top() *level { return r.levels[len(r.levels)-1] }

func (r *runner) call(fn int, args []api.Term) {
	l := &level{at: r.p.Fns[fn].At, slots: map[int]api.Term{}}
	for i, x := range args {
		l.slots[i] = x
	}
	r.levels = append(r.levels, l)
}

// binds are the slots that are bound.
func (l *level) binds() []api.Bind {
	var b []api.Bind
	for s := range api.MaxSlots {
		if x, ok := l.slots[s]; ok {
			b = append(b, api.Bind{S: code.Name(s), T: x})
		}
	}
	return b
}

// bind takes over what was bound; no slot may be bound that the function has not.
func (r *runner) bind(b []api.Bind) {
	for _, x := range b {
		s, ok := code.Slot(x.S)
		if !ok || s >= r.slots() {
			r.t.Fatalf("%s is bound", x.S)
		}
		r.top().slots[s] = x.T
	}
}

// slots are those of the function that is run.
func (r *runner) slots() int {
	n := 0
	for _, f := range r.p.Fns {
		if f.At <= r.top().at {
			n = f.Slots
		}
	}
	return n
}

func (r *runner) unbind(from int) {
	for s := from; s < api.MaxSlots; s++ {
		delete(r.top().slots, s)
	}
}

func (r *runner) push(x api.Term) { r.top().stack = append(r.top().stack, x) }

// pop pops so many, the lowest first.
func (r *runner) pop(n int) []api.Term {
	l := r.top()
	if len(l.stack) < n {
		r.t.Fatalf("%d operands, not %d, at %d", len(l.stack), n, l.at)
	}
	out := slices.Clone(l.stack[len(l.stack)-n:])
	l.stack = l.stack[:len(l.stack)-n]
	return out
}

func (r *runner) raise(class string, x api.Term) {
	for len(r.levels) > 0 {
		l := r.top()
		if n := len(l.tries); n > 0 {
			l.stack = append(l.stack[:l.tries[n-1].High], atom(class), x)
			l.at = l.tries[n-1].At
			l.tries = l.tries[:n-1]
			return
		}
		r.levels = r.levels[:len(r.levels)-1]
	}
	r.out = class + ":" + term.Text(x)
}

// come takes what a call of eval's came to.
func (r *runner) come(o api.Out) {
	if o.Class != api.ClNone {
		r.raise(classNames[o.Class], o.T)
		return
	}
	r.push(o.T)
	r.top().at++
}

func (r *runner) made(x api.Term, e api.Errno) {
	if e != api.OK {
		r.raise("error", atom("system_limit"))
		return
	}
	r.push(x)
	r.top().at++
}

func (r *runner) unit() {
	l := r.top()
	c := r.p.Ops[l.at]
	switch c.Op {
	case api.OpConst:
		r.push(c.T)
	case api.OpLoad:
		x, ok := l.slots[c.A]
		if !ok {
			r.t.Fatalf("the slot %d is not bound at %d", c.A, l.at)
		}
		r.push(x)
	case api.OpStore:
		r.bind([]api.Bind{{S: code.Name(c.A), T: r.pop(1)[0]}})
	case api.OpPop:
		r.pop(1)
	case api.OpTry:
		l.tries = append(l.tries, api.Try{At: c.A, High: len(l.stack)})
	case api.OpEnd:
		l.tries = l.tries[:len(l.tries)-1]
	case api.OpWait:
		r.pop(1)
		r.wait = true
	default:
		r.far(l, c)
		return
	}
	l.at++
}

// far is an instruction behind which it does not go on always.
func (r *runner) far(l *level, c api.Code) {
	switch c.Op {
	case api.OpTuple:
		r.made(term.Tuple(r.pop(c.A)))
	case api.OpCons:
		x := r.pop(2)
		r.made(term.Cons(x[0], x[1]))
	case api.OpArith:
		x := r.pop(2)
		r.come(eval.Arith(c.T.S, x[0], x[1]))
	case api.OpBuilt:
		o, ok := eval.Pure(c.T.S, r.pop(c.A))
		if !ok {
			r.out = "pure"
			return
		}
		r.come(o)
	case api.OpCall, api.OpTail:
		args := r.pop(c.A)
		l.at++
		if c.Op == api.OpTail {
			r.levels = r.levels[:len(r.levels)-1]
		}
		r.call(c.B, args)
	case api.OpApply:
		r.apply(l, r.pop(c.A+1))
	case api.OpRet:
		r.back(l)
	case api.OpJump:
		l.at = c.A
	case api.OpMatch:
		r.match(l, c)
	case api.OpGuard:
		l.at++
		if !guard.Holds(c.P, l.binds()) {
			l.at = c.A
		}
	case api.OpFail:
		r.fail(c)
	case api.OpRecv:
		r.receive(l, c)
	}
}

func (r *runner) apply(l *level, x []api.Term) {
	at, ok := code.Find(r.p, x[0].S, x[0].T, x[0].N)
	if x[0].K != api.KFun || x[0].N != len(x)-1 || !ok {
		r.failBy("badfun", x[0])
		return
	}
	l.at++
	r.call(at, x[1:])
}

func (r *runner) back(l *level) {
	x := r.pop(1)[0]
	if len(l.stack) > 0 || len(l.tries) > 0 {
		r.t.Fatalf("%d operands and %d handlers are left at %d", len(l.stack), len(l.tries), l.at)
	}
	r.levels = r.levels[:len(r.levels)-1]
	if len(r.levels) == 0 {
		r.out = term.Text(x)
		return
	}
	r.push(x)
}

func (r *runner) match(l *level, c api.Code) {
	r.unbind(c.B)
	b, ok, e := match.Match(c.P, l.stack[len(l.stack)-1], l.binds())
	if e != api.OK {
		r.t.Fatal(e)
	}
	if !ok {
		l.at = c.A
		return
	}
	r.bind(b)
	r.pop(1)
	l.at++
}

// failBy raises error, of a pair of an atom and the term that it is about.
func (r *runner) failBy(s string, x api.Term) {
	pair, e := term.Tuple([]api.Term{atom(s), x})
	if e != api.OK {
		pair = atom("system_limit")
	}
	r.raise("error", pair)
}

func (r *runner) fail(c api.Code) {
	x := r.pop(c.B)
	switch c.B {
	case 0:
		r.raise("error", c.T)
	case 1:
		r.failBy(c.T.S, x[0])
	case 2:
		r.raise(x[0].S, x[1])
	}
}

func (r *runner) receive(l *level, c api.Code) {
	if r.wait != (c.A == 1) {
		r.t.Fatalf("a time at %d: %v", l.at, r.wait)
	}
	r.wait = false
	r.unbind(c.T.N)
	for i, x := range r.mail {
		for j, n := range c.L {
			b, ok, _ := match.Match(n.L[0], x, l.binds())
			if ok && guard.Holds(n.L[1], b) {
				r.mail = slices.Delete(slices.Clone(r.mail), i, i+1)
				r.bind(b)
				l.at = r.p.Tab[c.B][j]
				return
			}
		}
	}
	if c.A == 0 {
		r.out = "waits"
		return
	}
	l.at = r.p.Tab[c.B][len(c.L)]
}

// outText tells what eval says.
func outText(o api.Out) string {
	switch {
	case o.Why != api.WhyNot:
		return []string{"", "fuel", "deep", "pure"}[o.Why]
	case o.Class != api.ClNone:
		return classNames[o.Class] + ":" + term.Text(o.T)
	}
	return term.Text(o.T)
}

// terms are those of a text such as 1;{a,b}.
func terms(t *testing.T, l ...string) []api.Term {
	t.Helper()
	var out []api.Term
	for _, s := range l {
		x, used, e := term.Read(s)
		if e != api.OK || used != len(s) {
			t.Fatal(s, e)
		}
		out = append(out, x)
	}
	return out
}

func (g *grower) term(deep int) api.Term {
	switch k := g.Intn(9); {
	case k == 0:
		return atom(pick(g, "a", "b", "throw"))
	case k == 1:
		f := pick(g, g.fns...)
		return api.Term{K: api.KFun, S: f.S, T: f.T, N: f.N}
	case k == 2:
		return api.Term{K: api.KNil}
	case k == 3 && deep > 0:
		return api.Term{K: api.KCons, L: []api.Term{g.term(deep - 1), g.term(deep - 1)}}
	case k == 4 && deep > 0:
		x := api.Term{K: api.KTuple}
		for range g.Intn(4) {
			x.L = append(x.L, g.term(deep-1))
		}
		return x
	}
	return api.Term{N: g.Intn(4)}
}

// P14.1: what a function comes to by its code is what it comes to by its tree.
func TestRandomRuns(t *testing.T) {
	g := &grower{Rand: rand.New(rand.NewSource(15)), pure: true}
	seen := map[string]int{}
	for range 400 {
		n := g.mods()
		p, e := Compile(n)
		if e != api.OK {
			continue
		}
		for range 10 {
			f := pick(g, g.fns...)
			var args []api.Term
			for range f.N {
				args = append(args, g.term(2))
			}
			o, _, e := eval.Call(n, f.S, f.T, args, 5000)
			want := outText(o)
			if e != api.OK || want == "fuel" || want == "deep" {
				seen[want]++
				continue
			}
			if got := run(t, p, f, args, nil); got != want {
				t.Fatalf("%s%s:%s %v: %s, not %s", ast.Text(n), f.S, f.T, args, got, want)
			}
			seen[classNames[o.Class]]++
		}
	}
	for _, s := range []string{"none", "error", "exit", "throw"} {
		if seen[s] < 30 {
			t.Error("too few:", s, seen[s])
		}
	}
}

// P14.1: what receives come to, with messages that wait, by their code.
func TestReceiveRuns(t *testing.T) {
	for _, r := range []struct {
		e    string
		mail []string
		want string
	}{
		{"receive Y -> {X, Y} end", []string{"1", "2"}, "{7,1}"},
		{"receive Y -> {X, Y} end", nil, "waits"},
		{"receive a -> 1; {Y, Z} when (Y > Z) -> {Y, Z} end", []string{"b", "{1,2}", "{2,1}", "a"}, "{2,1}"},
		{"receive X -> same end", []string{"1", "7"}, "same"},
		{"receive X -> same after 0 -> none end", []string{"1"}, "none"},
		{"receive after 0 -> {X} end", []string{"1"}, "{7}"},
		{"receive Y -> {clause, Y} after (Y = 5) -> {over, Y} end", []string{"1"}, "{clause,1}"},
		{"receive Y -> {clause, Y} after (Y = 5) -> {over, Y} end", nil, "{over,5}"},
		{"receive {Y} -> {clause, Y} after {(Y = 5), (Z = Y)} -> {over, Y, Z} end", []string{"1"}, "{over,5,5}"},
		{"{receive Y -> (Z = {Y}) end, receive Y -> Y end, (Z = X), (Y = 1)}", []string{"1", "2"}, "{{1},2,7,1}"},
		{"receive 1 -> receive Y -> {first, Y} end; Z -> receive Z -> {twice, Z} after 0 -> {once, Z} end after receive W -> W end -> over end", []string{"5", "1", "3"}, "{first,3}"},
		{"receive 1 -> receive Y -> {first, Y} end; Z -> receive Z -> {twice, Z} after 0 -> {once, Z} end after receive W -> W end -> over end", []string{"5", "2", "3", "2"}, "{twice,2}"},
		{"receive 1 -> receive Y -> {first, Y} end; Z -> receive Z -> {twice, Z} after 0 -> {once, Z} end after receive W -> W end -> over end", []string{"5", "2", "3"}, "{once,2}"},
		{"receive 1 -> receive Y -> {first, Y} end; Z -> receive Z -> {twice, Z} after 0 -> {once, Z} end after receive W -> W end -> over end", []string{"5"}, "over"},
		{"try receive Y -> throw(Y) end catch C:R -> {C, R, receive Z -> Z end} end", []string{"1", "2"}, "{throw,1,2}"},
		{"case receive Y -> {Y, X} end of {Y, X} -> receive Y -> {again, Y} after 0 -> Y end end", []string{"1", "2", "1"}, "{again,1}"},
	} {
		p := compiled(t, place(r.e+", a"))
		if got := run(t, p, p.Fns[0], terms(t, "7"), terms(t, r.mail...)); got != "a" && r.want != "waits" {
			t.Errorf("%s in front: %s", r.e, got)
		}
		p = compiled(t, place(r.e))
		if got := run(t, p, p.Fns[0], terms(t, "7"), terms(t, r.mail...)); got != r.want {
			t.Errorf("%s: %s, not %s", r.e, got, r.want)
		}
		p = compiled(t, place("{"+r.e+"}"))
		if got := run(t, p, p.Fns[0], terms(t, "7"), terms(t, r.mail...)); got != "{"+r.want+"}" && r.want != "waits" {
			t.Errorf("{%s}: %s, not %s", r.e, got, r.want)
		}
	}
}
