package code

import (
	"strconv"
	"strings"
	"testing"

	"pleach/api"
)

func wantText(t *testing.T, p api.Prog, lines ...string) {
	t.Helper()
	want := strings.Join(append(lines, ""), "\n")
	if got := Text(p); got != want {
		t.Errorf("%q, not %q", got, want)
	}
}

// P13.3: a line for each function, then one for each instruction.
func TestText(t *testing.T) {
	p := base()
	wantText(t, p, "fn m:f/0 0 2", "fn m:g/1 1 1", "fn m:h/1 4 32", "fn m:k/8 2 8", "0 17 0 0 ", "1 1 1 0 ", "2 3 0 0 ", "3 0 0 0 7", "4 11 0 0 ")
	p.Fns, p.Tab = nil, nil
	wantText(t, p, "0 17 0 0 ", "1 1 1 0 ", "2 3 0 0 ", "3 0 0 0 7", "4 11 0 0 ")
	wantText(t, of(api.Code{Op: api.OpRet}), "0 11 0 0 ")
	wantText(t, api.Prog{Fns: []api.Fn{{S: "aB_1", T: "receive", N: 3, Slots: 17}, {S: "z", T: "z"}}, Ops: []api.Code{{Op: api.OpFail, T: atom("a"), B: 2}}}, "fn aB_1:receive/3 0 17", "fn z:z/0 0 0", "0 15 0 2 a")
	for _, p := range []api.Prog{{}, {Fns: []api.Fn{}, Ops: []api.Code{}, Tab: [][]int{}}, {Tab: [][]int{{}}}} {
		if s := Text(p); s != "" {
			t.Errorf("%q", s)
		}
	}
}

// P13.3: a line for each kind of instruction; trees and tables are not told.
func TestTextOfKinds(t *testing.T) {
	want := strings.Split(strings.TrimSpace(`
0 0 0 5
0 0 0 0
1 1 0 
2 31 0 
3 0 0 
4 2 0 
5 0 0 
6 0 0 +
6 0 0 rem
7 0 0 self
7 1 0 hd
7 2 0 exit
8 0 0 
8 1 1 
9 0 0 
9 8 3 
10 0 0 
11 0 0 
12 2 0 
13 1 2 
14 0 0 
15 0 1 badmatch
15 0 0 0
16 4 0 
17 0 0 
18 0 2 3
18 0 1 0
18 1 4 32
19 0 0 .`), "\n")
	for i, k := range allKinds(t) {
		line := strings.TrimSuffix(want[i], ".")
		rest := []string{"1 1 1 0 ", "2 3 0 0 ", "3 0 0 0 7", "4 11 0 0 "}
		p := with(k.c)
		p.Fns = p.Fns[:4:4]
		wantText(t, p, append([]string{"fn m:f/0 0 2", "fn m:g/1 1 1", "fn m:h/1 4 32", "fn m:k/8 2 8", "0 " + line}, rest...)...)
	}
}

// P13.3: the text of each kind of term; that of an atom is as it stands.
func TestTextOfTerms(t *testing.T) {
	for _, s := range []string{"0", "-1", "576460752303423487", "-576460752303423488", "a", "z_9", "div", "receive", "system_limit", "#Ref<0>", "#Ref<7>", "<0>", "<12>", "fun m:f/0", "fun fun:end/8", "{}", "{1,a,{}}", "[]", "[1,2]", "[1|2]", "[1,2|{[],[a]}]", "[[]]"} {
		x := read(t, s)
		ret := api.Code{Op: api.OpRet}
		wantText(t, of(api.Code{Op: api.OpConst, T: x}, ret), "0 0 0 0 "+s, "1 11 0 0 ")
		for b := range 3 {
			wantText(t, of(api.Code{Op: api.OpFail, T: x, B: b}), "0 15 0 "+strconv.Itoa(b)+" "+s)
		}
	}
	for _, s := range []string{"+", "-", "*", "div", "rem", "=:=", "=/=", "<", "=<", ">", ">="} {
		wantText(t, of(api.Code{Op: api.OpArith, T: atom(s)}, api.Code{Op: api.OpRet}), "0 6 0 0 "+s, "1 11 0 0 ")
	}
	for _, n := range []int{0, 1, 32} {
		p := of(api.Code{Op: api.OpRecv, A: 1, T: num(n)}, api.Code{Op: api.OpRet})
		p.Tab = [][]int{{1}}
		wantText(t, p, "0 18 1 0 "+strconv.Itoa(n), "1 11 0 0 ")
	}
}

// P13.3: of a code that may not be, nothing is told.
func TestNoText(t *testing.T) {
	p := base()
	p.Ops[0] = api.Code{Op: api.OpJump, A: many}
	wantText(t, p)
	p = base()
	p.Tab[1][0] = -1
	wantText(t, p)
	p = base()
	p.Fns[3].Slots = 7
	wantText(t, p)
	wantText(t, api.Prog{Fns: base().Fns})
	wantText(t, of(api.Code{Op: api.OpPop}))
	for _, op := range []int8{-1, -128, 20, 127} {
		wantText(t, with(api.Code{Op: op}))
	}
}

// P13.3: places, as many as there may be.
func TestLongText(t *testing.T) {
	p := plenty(api.MaxCode, api.MaxCode, 0, 0)
	l := strings.Split(Text(p), "\n")
	if len(l) != 2*api.MaxCode+1 || l[2*api.MaxCode] != "" {
		t.Fatal(len(l))
	}
	for i := range api.MaxCode {
		n := strconv.Itoa(i)
		if l[i] != "fn m:f"+n+"/0 "+n+" 0" || l[api.MaxCode+i] != n+" 11 0 0 " {
			t.Fatalf("%q, %q", l[i], l[api.MaxCode+i])
		}
	}
}
