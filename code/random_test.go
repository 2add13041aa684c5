package code

import (
	"math/rand"
	"reflect"
	"slices"
	"strconv"
	"strings"
	"testing"

	"pleach/api"
	"pleach/term"
)

// maker makes random codes.
type maker struct {
	*rand.Rand
	t *testing.T
}

func newMaker(t *testing.T, seed int64) maker { return maker{rand.New(rand.NewSource(seed)), t} }

func pick[T any](m maker, l []T) T { return l[m.Intn(len(l))] }

// code is one that may be.
func (m maker) code() api.Prog {
	p := api.Prog{Ops: make([]api.Code, 1+m.Intn(12))}
	for i := range m.Intn(5) {
		n := m.Intn(4)
		p.Fns = append(p.Fns, api.Fn{S: pick(m, []string{"m", "o"}), T: "f" + strconv.Itoa(i), N: n, At: m.Intn(len(p.Ops)), Slots: n + m.Intn(33-n)})
	}
	for range m.Intn(5) {
		var l []int
		for range m.Intn(4) {
			l = append(l, m.Intn(len(p.Ops)))
		}
		p.Tab = append(p.Tab, l)
	}
	for i := range p.Ops {
		p.Ops[i] = m.instruction(p)
	}
	for !over(p.Ops) {
		p.Ops[len(p.Ops)-1] = m.instruction(p)
	}
	return p
}

// instruction is one that may stand in a code.
func (m maker) instruction(p api.Prog) api.Code {
	c := api.Code{Op: int8(m.Intn(kinds))}
	switch c.Op {
	case api.OpConst, api.OpFail:
		c.T = read(m.t, pick(m, []string{"0", "7", "a", "{a,[1|2]}", "[]", "<7>", "fun m:f/1"}))
		if c.Op == api.OpFail {
			c.B = m.Intn(3)
		}
	case api.OpLoad, api.OpStore:
		c.A = m.Intn(32)
	case api.OpTuple:
		c.A = m.Intn(257)
	case api.OpArith:
		c.T = atom(pick(m, []string{"+", "div", "=<", "=:="}))
	case api.OpBuilt:
		c.T, c.A = atom("exit"), 1+m.Intn(2)
	case api.OpCall, api.OpTail:
		if len(p.Fns) == 0 {
			return m.instruction(p)
		}
		c.B = m.Intn(len(p.Fns))
		c.A = p.Fns[c.B].N
	case api.OpApply:
		c.A = m.Intn(9)
	case api.OpJump, api.OpTry:
		c.A = m.Intn(len(p.Ops))
	case api.OpMatch:
		c.A, c.B, c.P = m.Intn(len(p.Ops)), m.Intn(33), pattern(m.t, pick(m, goodPatterns))
	case api.OpGuard:
		c.A, c.P = m.Intn(len(p.Ops)), guard(m.t, pick(m, goodGuards))
	case api.OpRecv:
		return m.receive(p)
	}
	return c
}

func (m maker) receive(p api.Prog) api.Code {
	if len(p.Tab) == 0 {
		return m.instruction(p)
	}
	c := api.Code{Op: api.OpRecv, A: m.Intn(2), B: m.Intn(len(p.Tab)), T: num(m.Intn(33))}
	if len(p.Tab[c.B]) == 0 {
		return m.instruction(p)
	}
	for range p.Tab[c.B][1:] {
		c.L = append(c.L, clauses(m.t, pick(m, goodPatterns)+" when "+pick(m, goodGuards)+" -> []")...)
	}
	return c
}

// spoil changes one thing somewhere in a value that can be set.
func (m maker) spoil(v reflect.Value) {
	switch v.Kind() {
	case reflect.Struct:
		m.spoil(v.Field(m.Intn(v.NumField())))
	case reflect.Slice:
		n := v.Len()
		switch k := m.Intn(8); {
		case n > 0 && k > 1:
			m.spoil(v.Index(m.Intn(n)))
		case n > 0 && k == 1:
			v.Set(v.Slice(0, n-1))
		case n > 0 && m.Intn(2) == 0:
			v.Set(reflect.Append(v, v.Index(m.Intn(n))))
		default:
			v.Set(reflect.Append(v, reflect.Zero(v.Type().Elem())))
		}
	case reflect.String:
		v.SetString(pick(m, []string{"", "a", "V", "V0", "V31", "V32", "V00", "_", "hd", "exit", "+", "=<", "m", "f1"}))
	default:
		n := pick(m, []int{0, 1, 2, 3, -1, 8, 9, 31, 32, 33, 256, 257, int(v.Int()) + 1, int(v.Int()) - 1, 1 << 40})
		v.SetInt(int64(n))
	}
}

// P13.1: random codes, and such with a few things changed, against a plain reading.
func TestRandom(t *testing.T) {
	m := newMaker(t, 13)
	may := map[bool]int{}
	ones := map[bool]int{}
	for range 20000 {
		p := m.code()
		for range m.Intn(4) {
			m.spoil(reflect.ValueOf(&p).Elem())
		}
		want := reading(p)
		may[want]++
		wantCheck(t, p, want)
		if (Text(p) != "") != (want && len(p.Ops) > 0) {
			t.Errorf("%q", Text(p))
		}
		for _, c := range p.Ops {
			ones[readingOne(p, c)]++
			wantIn(t, p, c, readingOne(p, c))
		}
		if t.Failed() {
			t.Fatalf("%+v", p)
		}
	}
	if min(may[true], may[false]) < 5000 || min(ones[true], ones[false]) < 3000 {
		t.Error("too few:", may, ones)
	}
}

// P13.2: two random codes are the same just if each field is.
func TestRandomSame(t *testing.T) {
	m := newMaker(t, 14)
	same := map[bool]int{}
	for range 5000 {
		a := copyOf(m.code())
		b := copyOf(a)
		for range m.Intn(3) {
			m.spoil(reflect.ValueOf(&b).Elem())
		}
		// In new memory lists of nothing are not nil.
		want := reflect.DeepEqual(a, copyOf(b))
		same[want]++
		wantSame(t, a, b, want)
		wantSame(t, b, copyOf(b), true)
	}
	if min(same[true], same[false]) < 1000 {
		t.Error("too few:", same)
	}
}

// P13.3: the texts of random codes, by a plain reading.
func TestRandomText(t *testing.T) {
	m := newMaker(t, 15)
	for range 2000 {
		p := m.code()
		var l []string
		for _, f := range p.Fns {
			l = append(l, "fn "+f.S+":"+f.T+"/"+strconv.Itoa(f.N)+" "+strconv.Itoa(f.At)+" "+strconv.Itoa(f.Slots))
		}
		for at, c := range p.Ops {
			s := map[bool]string{true: c.T.S, false: term.Text(c.T)}[c.T.K == api.KAtom]
			if !names(c.Op, "T") {
				s = ""
			}
			l = append(l, strings.Join([]string{strconv.Itoa(at), strconv.Itoa(int(c.Op)), strconv.Itoa(c.A), strconv.Itoa(c.B), s}, " "))
		}
		wantText(t, p, l...)
	}
}

// P13.4: one more function of a new name, wherever it begins, behind those of a code that may be; Find finds it, and all others where they were.
func TestOneMoreFunction(t *testing.T) {
	m := newMaker(t, 16)
	for range 2000 {
		p := m.code()
		wantCheck(t, p, true)
		for at := range p.Ops {
			n := m.Intn(9)
			q := p
			q.Fns = append(slices.Clone(p.Fns), api.Fn{S: pick(m, []string{"m", "o", "z"}), T: "g" + strconv.Itoa(m.Intn(9)), N: n, At: at, Slots: n + m.Intn(33-n)})
			wantCheck(t, q, true)
			last := q.Fns[len(p.Fns)]
			wantFind(t, q, last.S, last.T, last.N, len(p.Fns), true)
			for i, f := range p.Fns {
				wantFind(t, q, f.S, f.T, f.N, i, true)
			}
			for _, c := range p.Ops {
				wantIn(t, q, c, true)
			}
			wantSame(t, p, q, false)
		}
	}
}

// What is handed in is not changed, and not kept: what was asked stays the answer.
func TestUntouched(t *testing.T) {
	m := newMaker(t, 17)
	for range 500 {
		p := copyOf(m.code())
		if m.Intn(2) == 0 {
			m.spoil(reflect.ValueOf(&p).Elem())
			p = copyOf(p)
		}
		was := copyOf(p)
		e, s := Check(p), Text(p)
		for _, c := range p.Ops {
			One(p, c)
		}
		for _, f := range p.Fns {
			Find(p, f.S, f.T, f.N)
		}
		Same(p, was)
		if !reflect.DeepEqual(whole(p), whole(was)) {
			t.Fatalf("%+v", p)
		}
		q := copyOf(p)
		for range 5 {
			m.spoil(reflect.ValueOf(&q).Elem())
		}
		Check(q)
		Text(q)
		if Check(p) != e || Text(p) != s || Check(was) != e || Text(was) != s {
			t.Errorf("%+v", p)
		}
	}
}

// whole is the same with what stands behind the ends of its lists ahead of them.
func whole(p api.Prog) api.Prog {
	p.Fns, p.Ops, p.Tab = p.Fns[:cap(p.Fns)], p.Ops[:cap(p.Ops)], p.Tab[:cap(p.Tab)]
	return p
}
