package ints

import (
	"math"
	"math/big"
	"strconv"
	"strings"
	"testing"

	"pleach/api"
)

const (
	top    = api.MaxInt
	bottom = -api.MaxInt - 1
)

// edges are integers at which something may go wrong: bounds, 0, powers of two whose products meet the bounds, and roots of the bounds.
func edges() []int {
	l := []int{0, 1, 2, 3, 5, 7, 10, 1 << 20, 1<<29 - 1, 1 << 29, 1<<29 + 1, 1 << 30, 759250124, 759250125, 1 << 32, 1 << 34, 1<<35 + 1, 1 << 40, 1 << 58, top / 3, top / 2, top - 1, top}
	for _, n := range l {
		l = append(l, -n)
	}
	return append(l, bottom, bottom+1, bottom/2)
}

// strangers are numbers that are no integers.
func strangers() []int {
	return []int{top + 1, bottom - 1, 1 << 60, -1 << 60, math.MaxInt, math.MinInt}
}

func ops() []string { return []string{"+", "-", "*", "div", "rem"} }

func noOps() []string {
	return []string{"", " ", "%", "/", "**", "++", "+ ", " +", "Div", "DIV", "mod", "divrem", "=:=", "<", "+\x00"}
}

// P1.1
func TestMay(t *testing.T) {
	for _, n := range edges() {
		if !May(n) {
			t.Error(n)
		}
	}
	for _, n := range strangers() {
		if May(n) {
			t.Error(n)
		}
	}
}

// P1.1
func TestArith(t *testing.T) {
	for _, op := range ops() {
		if !Arith(op) {
			t.Error(op)
		}
	}
	for _, op := range noOps() {
		if Arith(op) {
			t.Error(op)
		}
	}
}

// P1.2
func TestDo(t *testing.T) {
	for _, c := range []struct {
		op      string
		a, b, n int
		e       api.Errno
	}{
		{"+", 2, 3, 5, api.OK},
		{"+", top, 1, 0, api.ErrLimit},
		{"+", top, 0, top, api.OK},
		{"+", top, bottom, -1, api.OK},
		{"+", bottom, -1, 0, api.ErrLimit},
		{"+", top, top, 0, api.ErrLimit},
		{"+", bottom, bottom, 0, api.ErrLimit},
		{"-", 2, 3, -1, api.OK},
		{"-", bottom, 1, 0, api.ErrLimit},
		{"-", bottom, bottom, 0, api.OK},
		{"-", 0, bottom, 0, api.ErrLimit},
		{"-", -1, bottom, top, api.OK},
		{"-", 0, top, bottom + 1, api.OK},
		{"*", -4, 5, -20, api.OK},
		{"*", -4, -5, 20, api.OK},
		{"*", 0, bottom, 0, api.OK},
		{"*", bottom, 0, 0, api.OK},
		{"*", bottom, -1, 0, api.ErrLimit},
		{"*", -1, bottom, 0, api.ErrLimit},
		{"*", top, -1, bottom + 1, api.OK},
		{"*", 1 << 30, 1 << 29, 0, api.ErrLimit},
		{"*", -1 << 30, 1 << 29, bottom, api.OK},
		{"*", 1 << 32, 1 << 32, 0, api.ErrLimit},     // goes round to 0
		{"*", 1<<32 + 1, 1 << 32, 0, api.ErrLimit},   // goes round to 2^32
		{"*", 1 << 40, 1 << 40, 0, api.ErrLimit},     // goes round to 0
		{"*", 1<<33 + 1, 1<<33 - 1, 0, api.ErrLimit}, // goes round to -1
		{"*", top, top, 0, api.ErrLimit},
		{"*", bottom, bottom, 0, api.ErrLimit},
		{"div", 7, 2, 3, api.OK},
		{"div", -7, 2, -3, api.OK},
		{"div", 7, -2, -3, api.OK},
		{"div", -7, -2, 3, api.OK},
		{"div", 1, 2, 0, api.OK},
		{"div", -1, 2, 0, api.OK},
		{"div", bottom, -1, 0, api.ErrLimit},
		{"div", top, -1, bottom + 1, api.OK},
		{"div", bottom, 1, bottom, api.OK},
		{"div", 0, 0, 0, api.ErrArith},
		{"div", bottom, 0, 0, api.ErrArith},
		{"rem", 7, 2, 1, api.OK},
		{"rem", -7, 2, -1, api.OK},
		{"rem", 7, -2, 1, api.OK},
		{"rem", -7, -2, -1, api.OK},
		{"rem", bottom, -1, 0, api.OK},
		{"rem", bottom, top, -1, api.OK},
		{"rem", top, bottom, top, api.OK},
		{"rem", 0, 0, 0, api.ErrArith},
		{"rem", top, 0, 0, api.ErrArith},
	} {
		if n, e := Do(c.op, c.a, c.b); n != c.n || e != c.e {
			t.Error(c.op, c.a, c.b, "is", n, e, "not", c.n, c.e)
		}
	}
}

// P1.2
func TestDoRefusesStrangers(t *testing.T) {
	for _, op := range ops() {
		for _, s := range strangers() {
			for _, n := range []int{0, 1, -1, top, bottom, s} {
				wantArg(t, op, s, n)
				wantArg(t, op, n, s)
			}
		}
	}
	for _, op := range noOps() {
		wantArg(t, op, 1, 1)
		wantArg(t, op, 1, 0)
		wantArg(t, op, top, top)
		wantArg(t, op, top+1, 0)
	}
}

func wantArg(t *testing.T, op string, a, b int) {
	t.Helper()
	if n, e := Do(op, a, b); n != 0 || e != api.ErrArg {
		t.Error(op, a, b, "is", n, e)
	}
}

// P1.2: held against numbers without bounds.
func TestDoAgainstBig(t *testing.T) {
	for _, op := range ops() {
		for _, a := range edges() {
			for _, b := range edges() {
				n, e := Do(op, a, b)
				if wantN, wantE := bigDo(op, a, b); n != wantN || e != wantE {
					t.Error(op, a, b, "is", n, e, "not", wantN, wantE)
				}
			}
		}
	}
}

func bigDo(op string, a, b int) (int, api.Errno) {
	x, y, z := big.NewInt(int64(a)), big.NewInt(int64(b)), new(big.Int)
	if b == 0 && (op == "div" || op == "rem") {
		return 0, api.ErrArith
	}
	switch op {
	case "+":
		z.Add(x, y)
	case "-":
		z.Sub(x, y)
	case "*":
		z.Mul(x, y)
	case "div":
		z.Quo(x, y)
	case "rem":
		z.Rem(x, y)
	}
	if z.Cmp(big.NewInt(top)) > 0 || z.Cmp(big.NewInt(bottom)) < 0 {
		return 0, api.ErrLimit
	}
	return int(z.Int64()), api.OK
}

// P1.3
func TestCompare(t *testing.T) {
	for op, want := range map[string][3]bool{
		"=:=": {false, true, false},
		"=/=": {true, false, true},
		"<":   {true, false, false},
		"=<":  {true, true, false},
		">":   {false, false, true},
		">=":  {false, true, true},
	} {
		for i, l := range [][]int{{-1, -2, bottom, math.MinInt}, {0}, {1, 2, top, math.MaxInt}} {
			for _, c := range l {
				if yes, ok := Compare(op, c); !ok || yes != want[i] {
					t.Error(op, c, yes, ok)
				}
			}
		}
	}
	for _, op := range []string{"", "==", "/=", "<=", "=>", "=", "!=", "< ", "+", "div"} {
		for c := -1; c <= 1; c++ {
			if yes, ok := Compare(op, c); yes || ok {
				t.Error(op, c, yes, ok)
			}
		}
	}
}

// P1.4
func TestRead(t *testing.T) {
	noughts := strings.Repeat("0", 5000)
	most := strconv.Itoa(top)
	for _, c := range []struct {
		s       string
		n, used int
		e       api.Errno
	}{
		{"12ab", 12, 2, api.OK},
		{"0", 0, 1, api.OK},
		{"9", 9, 1, api.OK},
		{"007", 7, 3, api.OK},
		{"1 2", 1, 1, api.OK},
		{"1-2", 1, 1, api.OK},
		{"3\x00", 3, 1, api.OK},
		{"1/2", 1, 1, api.OK}, // the byte ahead of 0
		{"1:2", 1, 1, api.OK}, // the byte behind 9
		{"4\u0664", 4, 1, api.OK},
		{most, top, 18, api.OK},
		{most + "x", top, 18, api.OK},
		{noughts + most, top, 5018, api.OK},
		{noughts, 0, 5000, api.OK},
		{"576460752303423488", 0, 18, api.ErrLimit},
		{"576460752303423488.", 0, 18, api.ErrLimit},
		{"5764607523034234870", 0, 19, api.ErrLimit},
		{noughts + "576460752303423488", 0, 5018, api.ErrLimit},
		{"18446744073709551617", 0, 20, api.ErrLimit}, // goes round to 1
		{"9223372036854775808", 0, 19, api.ErrLimit},
		{strings.Repeat("9", 5000) + "a", 0, 5000, api.ErrLimit},
		{"1" + noughts, 0, 5001, api.ErrLimit},
		{"", 0, 0, api.ErrArg},
		{"x", 0, 0, api.ErrArg},
		{"x1", 0, 0, api.ErrArg},
		{" 1", 0, 0, api.ErrArg},
		{"-1", 0, 0, api.ErrArg},
		{"+1", 0, 0, api.ErrArg},
		{"/", 0, 0, api.ErrArg},
		{":", 0, 0, api.ErrArg},
		{"\xb2", 0, 0, api.ErrArg},
		{"\u0664", 0, 0, api.ErrArg},
	} {
		if n, used, e := Read(c.s); n != c.n || used != c.used || e != c.e {
			t.Errorf("%.30q is %d %d %d, not %d %d %d", c.s, n, used, e, c.n, c.used, c.e)
		}
	}
}

// P1.4: what is told by digits is read again.
func TestReadTold(t *testing.T) {
	for _, n := range edges() {
		if n < 0 {
			continue
		}
		s := strconv.Itoa(n)
		if m, used, e := Read(s + "."); m != n || used != len(s) || e != api.OK {
			t.Error(n, m, used, e)
		}
	}
}

// P1.5
func TestSumsAndDifferences(t *testing.T) {
	for _, a := range edges() {
		for _, b := range edges() {
			s, e := Do("+", a, b)
			if e != api.OK {
				continue
			}
			if back, e := Do("-", s, b); back != a || e != api.OK {
				t.Error(a, b, back, e)
			}
		}
	}
}

// P1.5
func TestQuotientsAndRests(t *testing.T) {
	for _, a := range edges() {
		for _, b := range edges() {
			q, eq := Do("div", a, b)
			r, er := Do("rem", a, b)
			if eq != api.OK || er != api.OK {
				continue
			}
			p, ep := Do("*", q, b)
			back, e := Do("+", p, r)
			if back != a || ep != api.OK || e != api.OK {
				t.Error(a, b, q, r, p, back)
			}
		}
	}
}

// P1.5: where the sums come to no integer any more, the product is none either.
func TestTimesIsPlusAgain(t *testing.T) {
	for _, a := range edges() {
		sum, e := 0, api.OK
		for b := 0; b <= 40; b++ {
			if n, en := Do("*", a, b); n != sum || en != e {
				t.Error(a, b, n, en, "not", sum, e)
			}
			if e == api.OK {
				sum, e = Do("+", sum, a)
			}
		}
	}
}
