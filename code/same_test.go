package code

import (
	"reflect"
	"slices"
	"strconv"
	"testing"

	"pleach/api"
)

// rich is a code with something in every field, which need not be one that may be.
func rich() api.Prog {
	return api.Prog{
		Fns: []api.Fn{fn("f", 1, 2, 3), fn("g", 4, 5, 6)},
		Ops: []api.Code{
			{Op: 1, A: 2, B: 3, T: tuple(atom("a"), num(1), api.Term{K: api.KFun, S: "m", T: "f", N: 2, L: []api.Term{{}}}), P: richTree("P"), L: []api.Node{richTree("L"), richTree("M")}},
			{},
			{Op: 4, A: 5, B: 6, T: api.Term{K: 1, N: 2, S: "s", T: "t", L: []api.Term{num(1)}}, P: richTree("Q"), L: []api.Node{richTree("N")}},
		},
		Tab: [][]int{{1, 2}, {}, {3}},
	}
}

func richTree(s string) api.Node {
	leaf := api.Node{K: 5, N: 1, S: s, T: "t"}
	return api.Node{K: 3, N: 2, S: "n" + s, T: "u", L: []api.Node{leaf, {K: 4, L: []api.Node{leaf, {}}}, leaf}}
}

// copied is the same in new memory, with room behind each end.
func copied(v reflect.Value) reflect.Value {
	to := reflect.New(v.Type()).Elem()
	switch v.Kind() {
	case reflect.Struct:
		for i := range v.NumField() {
			to.Field(i).Set(copied(v.Field(i)))
		}
	case reflect.Slice:
		to.Set(reflect.MakeSlice(v.Type(), v.Len(), v.Len()+2))
		for i := range v.Len() {
			to.Index(i).Set(copied(v.Index(i)))
		}
	default:
		to.Set(v)
	}
	return to
}

func copyOf(p api.Prog) api.Prog { return copied(reflect.ValueOf(p)).Interface().(api.Prog) }

// eachChange calls with each change of one field of what v is, made in it, and takes it back.
func eachChange(v reflect.Value, told string, call func(told string)) {
	switch v.Kind() {
	case reflect.Struct:
		for i := range v.NumField() {
			eachChange(v.Field(i), told+"."+v.Type().Field(i).Name, call)
		}
	case reflect.Slice:
		was := v.Interface()
		for i := range v.Len() {
			eachChange(v.Index(i), told+"."+strconv.Itoa(i), call)
			v.Set(reflect.AppendSlice(reflect.AppendSlice(reflect.MakeSlice(v.Type(), 0, 0), v.Slice(0, i)), v.Slice(i+1, v.Len())))
			call(told + " less " + strconv.Itoa(i))
			v.Set(reflect.ValueOf(was))
		}
		v.Set(reflect.Append(reflect.AppendSlice(reflect.MakeSlice(v.Type(), 0, 0), v), reflect.Zero(v.Type().Elem())))
		call(told + " and one more")
		v.Set(reflect.ValueOf(was))
	case reflect.String:
		was := v.String()
		for _, s := range []string{was + "x", "x" + was} {
			v.SetString(s)
			call(told)
		}
		v.SetString(was)
	default:
		was := v.Int()
		for _, n := range []int64{was + 1, was - 1, -was - 7} {
			v.SetInt(n)
			call(told)
		}
		v.SetInt(was)
	}
}

func wantSame(t *testing.T, a, b api.Prog, want bool) {
	t.Helper()
	if Same(a, b) != want || Same(b, a) != want {
		t.Errorf("%d and %d instructions: %v, %v", len(a.Ops), len(b.Ops), Same(a, b), Same(b, a))
	}
}

// P13.2: codes that differ in one field only, of any instruction, function, table, term or tree.
func TestSameChanged(t *testing.T) {
	a, b := rich(), copyOf(rich())
	wantSame(t, a, a, true)
	wantSame(t, a, b, true)
	changes := 0
	eachChange(reflect.ValueOf(&b).Elem(), "", func(told string) {
		changes++
		if Same(a, b) || Same(b, a) || !Same(b, b) || !Same(b, copyOf(b)) {
			t.Error(told)
		}
	})
	wantSame(t, a, b, true)
	if changes < 500 {
		t.Error(changes)
	}
}

// P13.2: lists of nothing and none are alike, wherever they stand; a list of nothing is not the same as none of it.
func TestSameEmpty(t *testing.T) {
	none := api.Prog{}
	wantSame(t, none, api.Prog{Fns: []api.Fn{}, Ops: []api.Code{}, Tab: [][]int{}}, true)
	wantSame(t, api.Prog{Tab: [][]int{nil}}, api.Prog{Tab: [][]int{{}}}, true)
	wantSame(t, none, api.Prog{Tab: [][]int{{}}}, false)
	wantSame(t, none, api.Prog{Fns: []api.Fn{{}}}, false)
	wantSame(t, none, of(api.Code{}), false)
	filled := api.Code{T: api.Term{L: []api.Term{}}, P: api.Node{L: []api.Node{}}, L: []api.Node{}}
	wantSame(t, of(api.Code{}), of(filled), true)
	deep := api.Code{T: tuple(tuple()), P: row(1, row(2)), L: []api.Node{row(3, row(4))}}
	empty := api.Code{T: tuple(api.Term{K: api.KTuple, L: []api.Term{}}), P: row(1, api.Node{K: 2, L: []api.Node{}}), L: []api.Node{row(3, api.Node{K: 4, L: []api.Node{}})}}
	wantSame(t, of(deep), of(empty), true)
	wantSame(t, of(api.Code{}, deep), of(filled, empty), true)
	wantSame(t, of(api.Code{L: []api.Node{{}}}), of(api.Code{}), false)
	wantSame(t, of(api.Code{P: row(0, api.Node{})}), of(api.Code{}), false)
	wantSame(t, of(api.Code{T: api.Term{L: []api.Term{{}}}}), of(api.Code{}), false)
}

// P13.2: what stands in another order, in another instruction or another list is not the same.
func TestSameElsewhere(t *testing.T) {
	x, y := api.Code{Op: api.OpPop}, api.Code{Op: api.OpRet}
	f, g := fn("f", 0, 0, 0), fn("g", 0, 0, 0)
	for _, r := range [][2]api.Prog{
		{of(x, y), of(y, x)}, {of(x), of(x, x)}, {of(api.Code{A: 1}), of(api.Code{B: 1})}, {of(api.Code{T: tuple(num(1), num(2))}), of(api.Code{T: tuple(num(2), num(1))})},
		{of(api.Code{P: row(1)}), of(api.Code{L: []api.Node{row(1)}})}, {of(api.Code{T: atom("a")}, api.Code{}), of(api.Code{}, api.Code{T: atom("a")})}, {of(api.Code{P: row(1)}, api.Code{}), of(api.Code{}, api.Code{P: row(1)})},
		{of(api.Code{L: []api.Node{row(1), row(2)}}, api.Code{}), of(api.Code{L: []api.Node{row(1)}}, api.Code{L: []api.Node{row(2)}})}, {of(api.Code{P: row(1), L: []api.Node{row(2)}}, api.Code{P: row(3)}), of(api.Code{P: row(1)}, api.Code{P: row(2), L: []api.Node{row(3)}})}, {of(api.Code{L: []api.Node{row(1, row(2), row(3))}}), of(api.Code{L: []api.Node{row(1, row(2)), row(3)}})}, {of(api.Code{T: tuple(tuple(num(1)), num(2))}), of(api.Code{T: tuple(tuple(num(1), num(2)))})},
		{{Fns: []api.Fn{f, g}}, {Fns: []api.Fn{g, f}}}, {{Tab: [][]int{{1}, {2}}}, {Tab: [][]int{{2}, {1}}}}, {{Tab: [][]int{{1, 2}}}, {Tab: [][]int{{1}, {2}}}}, {{Tab: [][]int{{}, {1}}}, {Tab: [][]int{{1}, {}}}}, {{Tab: [][]int{{1, 2}}}, {Tab: [][]int{{2, 1}}}},
	} {
		wantSame(t, r[0], r[1], false)
		wantSame(t, r[0], copyOf(r[0]), true)
		wantSame(t, r[1], copyOf(r[1]), true)
	}
	// What stands behind the end is no part of it, also where both lists lie in one memory.
	l := []api.Code{x, y, y}
	wantSame(t, of(l[:1]...), of(x), true)
	wantSame(t, of(l[1:2]...), of(l[2:]...), true)
	wantSame(t, of(l[:2]...), of(l...), false)
	parts := []api.Term{num(1), num(1), num(2)}
	trees := []api.Node{row(1), row(1), row(2)}
	ints := []int{1, 1, 2}
	same := func(i, j, k, m int) bool {
		return Same(of(api.Code{T: tuple(parts[i:j]...)}), of(api.Code{T: tuple(parts[k:m]...)})) && Same(of(api.Code{L: trees[i:j]}), of(api.Code{L: trees[k:m]})) && Same(of(api.Code{P: row(0, trees[i:j]...)}), of(api.Code{P: row(0, trees[k:m]...)})) && Same(api.Prog{Tab: [][]int{ints[i:j]}}, api.Prog{Tab: [][]int{ints[k:m]}})
	}
	if !same(0, 1, 1, 2) || same(0, 1, 0, 2) || same(1, 2, 2, 3) || same(0, 2, 1, 3) || !same(0, 3, 0, 3) || !same(0, 0, 3, 3) {
		t.Error("lists in one memory")
	}
	// A part of a list that is the same tells nothing of what stands behind that part.
	for _, n := range []int{1, 2} {
		x, y := []api.Term{num(1), num(2), num(3)}, []api.Term{num(1), num(2), num(4)}
		p, q := []api.Node{row(1), row(2), row(3)}, []api.Node{row(1), row(2), row(4)}
		wantSame(t, of(api.Code{T: tuple(tuple(x[:n]...), tuple(x...), tuple(x[:n]...))}), of(api.Code{T: tuple(tuple(y[:n]...), tuple(y...), tuple(y[:n]...))}), false)
		wantSame(t, of(api.Code{P: row(1, p[:n]...)}, api.Code{L: p}, api.Code{P: row(1, p[:n]...)}), of(api.Code{P: row(1, q[:n]...)}, api.Code{L: q}, api.Code{P: row(1, q[:n]...)}), false)
	}
}

// P13.2: great trees and terms, such that share their parts, are deep, or hold themselves.
func TestSameGreat(t *testing.T) {
	terms := []func(int) api.Term{wide, nested, round, shared}
	trees := []func(int) api.Node{wideTree, nestedTree, roundTree, sharedTree}
	sizes := [][2]int{{3000, 3001}, {100000, 100001}, {-1, -1}, {70, 71}}
	for i, s := range sizes {
		if s[0] < 0 {
			continue
		}
		x, y, z := terms[i](s[0]), terms[i](s[0]), terms[i](s[1])
		wantSame(t, of(api.Code{T: x}), of(api.Code{T: y}), true)
		wantSame(t, of(api.Code{T: x}), of(api.Code{T: z}), false)
		wantSame(t, of(api.Code{}, api.Code{T: x}, api.Code{T: x}), of(api.Code{}, api.Code{T: y}, api.Code{T: x}), true)
		wantSame(t, of(api.Code{}, api.Code{T: x}, api.Code{T: x}), of(api.Code{}, api.Code{T: y}, api.Code{T: z}), false)
		p, q, r := trees[i](s[0]), trees[i](s[0]), trees[i](s[1])
		wantSame(t, of(api.Code{P: p}), of(api.Code{P: q}), true)
		wantSame(t, of(api.Code{P: p}), of(api.Code{P: r}), false)
		wantSame(t, of(api.Code{L: []api.Node{p, q}}), of(api.Code{L: []api.Node{q, p}}), true)
		wantSame(t, of(api.Code{L: []api.Node{p, q}}), of(api.Code{L: []api.Node{q, r}}), false)
	}
	// Such as hold themselves never come to something that differs, or come to it.
	for _, d := range []int{1, 2, 3, 5} {
		for _, e := range []int{1, 2, 3, 7} {
			wantSame(t, of(api.Code{T: round(d)}), of(api.Code{T: round(e)}), true)
			wantSame(t, of(api.Code{P: roundTree(d)}), of(api.Code{P: roundTree(e)}), true)
			wantSame(t, of(api.Code{T: round(d)}), of(api.Code{T: nested(50)}), false)
			wantSame(t, of(api.Code{L: []api.Node{roundTree(d)}}), of(api.Code{L: []api.Node{nestedTree(50)}}), false)
			x, y := round(d), roundTree(d)
			x.L = append(slices.Clone(x.L), num(e))
			y.L = append(slices.Clone(y.L), row(int8(e)))
			wantSame(t, of(api.Code{T: x}), of(api.Code{T: round(d)}), false)
			wantSame(t, of(api.Code{P: y}), of(api.Code{P: roundTree(d)}), false)
		}
	}
}

// P13.2: codes that may not be are held against each other as all are.
func TestSameWrong(t *testing.T) {
	p := with(api.Code{Op: -7, A: -1, B: 99, T: num(api.MaxInt + 1), P: api.Node{K: -1, S: "?"}, L: []api.Node{{K: 99}}})
	p.Fns = append(p.Fns, p.Fns[0], api.Fn{S: "+", N: -1})
	p.Tab = append(p.Tab, []int{-7, 1 << 40})
	wantSame(t, p, copyOf(p), true)
	wantSame(t, p, base(), false)
	q := copyOf(p)
	q.Tab[5][0] = 7
	wantSame(t, p, q, false)
}
