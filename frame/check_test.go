package frame

import (
	"math"
	"slices"
	"testing"

	"pleach/api"
)

// whole is a frame of the function k of prog that may be, and has something in each of its fields.
func whole(k int) api.Frame {
	f := api.Frame{Fn: k, Pc: 2, Slots: nums(20, base[k].slots), Bound: make([]bool, base[k].slots), Stack: nums(40, 6), Wait: 7}
	for i := range f.Bound {
		f.Bound[i] = i%3 != 1
	}
	f.Tries = []api.Try{{At: 1, High: 0}, {At: 0, High: 6}, {At: 4, High: 3}}
	return f
}

// wantCheck holds whether a frame may be.
func wantCheck(t *testing.T, p api.Prog, f api.Frame, want bool) {
	t.Helper()
	if e := Check(p, f); e != api.OK && e != api.ErrArg || (e == api.OK) != want {
		t.Errorf("kind %d, function %d, place %d, %d slots, %d operands, %d handlers, wait %d: %v", f.Kind, f.Fn, f.Pc, len(f.Slots), len(f.Stack), len(f.Tries), f.Wait, e)
	}
}

// around are the numbers at two bounds and past them, and great ones.
func around(least, most int) []int {
	l := []int{math.MinInt, -1 << 41, -1 << 32, -256, 256 + least, 1<<32 + least, 1 << 41, math.MaxInt}
	for n := -3; n <= 3; n++ {
		l = append(l, least+n, most+n)
	}
	return l
}

// wantNumbers holds whether a frame may be with each number in one of its fields: just with those from least to most.
func wantNumbers(t *testing.T, least, most int, set func(f *api.Frame, n int)) {
	t.Helper()
	for k := range base {
		for _, n := range around(least, most) {
			f := whole(k)
			set(&f, n)
			wantCheck(t, prog(), f, least <= n && n <= most)
		}
	}
}

// P15.1: each kind, and kinds that there are not.
func TestKinds(t *testing.T) {
	for kind := math.MinInt8; kind <= math.MaxInt8; kind++ {
		for k := range base {
			f := whole(k)
			f.Kind = int8(kind)
			wantCheck(t, prog(), f, 0 <= kind && kind <= 5)
		}
		wantCheck(t, prog(), api.Frame{Kind: int8(kind)}, 0 <= kind && kind <= 5)
		wantCheck(t, api.Prog{}, api.Frame{Kind: int8(kind)}, 1 <= kind && kind <= 5)
	}
	for i, kind := range []int8{api.FrCode, api.FrGen, api.FrServer, api.FrStop, api.FrStart, api.FrSuper} {
		if int(kind) != i {
			t.Error(i, kind)
		}
	}
}

// anything is what may stand in a machine's fields.
func anything() []api.Machine {
	l := []api.Machine{{}, {Phase: -1, Pid: -1, Ref: -1, At: -9, N: -1}, {Phase: 127, Pid: math.MaxInt, Ref: math.MaxInt, At: math.MaxInt, N: math.MinInt}}
	for _, x := range badTerms() {
		bad := api.Child{Id: x, Kind: -1, Restart: 9, Shutdown: math.MinInt, M: "M", Args: []api.Term{x}, Sup: make([]api.Sup, 3)}
		l = append(l, api.Machine{T: x}, api.Machine{U: x}, api.Machine{V: x}, api.Machine{Recs: []api.Record{{C: bad, Pid: -1}}}, api.Machine{Spec: api.Sup{Strategy: -1, MaxR: -1, Children: []api.Child{bad}}}, api.Machine{Log: []int{5, -1}, Todo: make([]int, 999)})
	}
	return l
}

// P15.1: of machines, and of a code frame's M, nothing is asked.
func TestMachines(t *testing.T) {
	for _, m := range anything() {
		for k := range base {
			f := whole(k)
			f.M = m
			wantCheck(t, prog(), f, true)
		}
		for kind := api.FrGen; kind <= api.FrSuper; kind++ {
			f := api.Frame{Kind: kind, M: m, Fn: -1, Pc: 99, Wait: -7, Bound: make([]bool, 3), Stack: []api.Term{{K: -1}}, Slots: []api.Term{m.T}, Tries: []api.Try{{At: -1, High: -1}}}
			wantCheck(t, prog(), f, true)
			wantCheck(t, api.Prog{}, f, true)
			f.Kind = api.FrCode
			wantCheck(t, prog(), f, false)
		}
	}
}

// P15.1: functions of the code, with as many slots as each has.
func TestCheckFn(t *testing.T) {
	for k := range base {
		for _, fn := range around(0, len(base)-1) {
			f := whole(k)
			f.Fn = fn
			wantCheck(t, prog(), f, 0 <= fn && fn < len(base) && base[fn].slots == base[k].slots)
		}
	}
	for _, fn := range around(0, len(base)-1) {
		wantCheck(t, api.Prog{Ops: prog().Ops}, api.Frame{Fn: fn}, false)
	}
}

// P15.1: places of instructions, deadlines, and how handlers lie.
func TestCheckNumbers(t *testing.T) {
	wantNumbers(t, 0, many-1, func(f *api.Frame, n int) { f.Pc = n })
	wantNumbers(t, -2, 1<<40, func(f *api.Frame, n int) { f.Wait = n })
	for i := range whole(0).Tries {
		wantNumbers(t, 0, many-1, func(f *api.Frame, n int) { f.Tries[i].At = n })
		wantNumbers(t, 0, 6, func(f *api.Frame, n int) { f.Tries[i].High = n })
	}
	// High goes by how many operands there are.
	for _, operands := range []int{0, 1, 511, 512} {
		wantNumbers(t, 0, operands, func(f *api.Frame, n int) {
			f.Stack, f.Tries = nums(0, operands), []api.Try{{At: 0, High: n}}
		})
	}
	wantNumbers(t, 1, 0, func(f *api.Frame, n int) { f.Stack = f.Stack[:5] })
	wantNumbers(t, 1, 0, func(f *api.Frame, n int) { f.Stack = nil })
	for _, n := range []int{-3, -2, -1, 0, 1 << 40, 1<<40 + 1} {
		f := whole(0)
		f.Wait = n
		wantCheck(t, prog(), f, n != -3 && n <= 1<<40)
	}
}

// P15.1: as many slots as the function has, and as many that tell whether they are bound.
func TestCheckSlots(t *testing.T) {
	for k, b := range base {
		for slots := range api.MaxSlots + 3 {
			f := whole(k)
			f.Slots = nums(0, slots)
			wantCheck(t, prog(), f, slots == b.slots)
			f.Bound = make([]bool, slots)
			wantCheck(t, prog(), f, slots == b.slots)
			f.Slots = whole(k).Slots
			wantCheck(t, prog(), f, slots == b.slots)
		}
		f := whole(k)
		f.Slots = nil
		wantCheck(t, prog(), f, b.slots == 0)
		f.Bound = nil
		wantCheck(t, prog(), f, b.slots == 0)
		f.Slots = whole(k).Slots
		wantCheck(t, prog(), f, b.slots == 0)
		f.Slots, f.Bound = []api.Term{}, []bool{}
		wantCheck(t, prog(), f, b.slots == 0)
		// What is bound and what is not, in any way.
		f = whole(k)
		for _, is := range []bool{true, false} {
			f.Bound = slices.Repeat([]bool{is}, b.slots)
			wantCheck(t, prog(), f, true)
		}
	}
}

// P15.1: operands and handlers at their limits, and past them.
func TestCheckMany(t *testing.T) {
	for k := range base {
		for _, n := range []int{0, 1, 255, 256, 257, 511, 512, 513, 514, 1024, 1 << 16} {
			f := whole(k)
			f.Stack, f.Tries = nums(0, n), nil
			wantCheck(t, prog(), f, n <= 512)
			f.Stack = slices.Repeat([]api.Term{wide(api.MaxTerm)}, min(n, 520))
			wantCheck(t, prog(), f, n <= 512)
		}
		for _, n := range []int{0, 1, 2, 63, 64, 65, 66, 128, 1 << 16} {
			f := whole(k)
			f.Tries = slices.Repeat([]api.Try{{At: 4, High: 6}}, n)
			wantCheck(t, prog(), f, n <= 64)
			f.Tries = make([]api.Try, n)
			wantCheck(t, prog(), f, n <= 64)
		}
	}
}

// P15.1: at each place a term that may be, and one that may not be; of slots that are not bound, too.
func TestCheckTerms(t *testing.T) {
	for k := range base {
		f := whole(k)
		for _, l := range [][]api.Term{f.Slots, f.Stack} {
			for i := range l {
				was := l[i]
				for _, x := range goodTerms() {
					l[i] = x
					wantCheck(t, prog(), f, true)
				}
				for _, x := range badTerms() {
					l[i] = x
					wantCheck(t, prog(), f, false)
				}
				l[i] = was
			}
		}
		wantCheck(t, prog(), f, true)
	}
}

// P15.1: what Check asks is asked of the frame; of the code it takes its functions' slots, and how many there are of each.
func TestCheckCodes(t *testing.T) {
	p := prog()
	p.Ops = make([]api.Code, many)
	for i := range p.Ops {
		p.Ops[i] = api.Code{Op: -1, A: -1}
	}
	p.Fns[0] = api.Fn{S: "A", N: -1, At: 99}
	for k := range base {
		wantCheck(t, p, whole(k), true)
	}
	for _, slots := range []int{math.MinInt, -1, 1, math.MaxInt} {
		p.Fns[0].Slots = slots
		wantCheck(t, p, whole(0), false)
	}
	p.Fns[0].Slots = 1000
	f := whole(0)
	f.Slots, f.Bound = nums(0, 1000), make([]bool, 1000)
	wantCheck(t, p, f, true)
	p.Ops = p.Ops[:2]
	wantCheck(t, p, f, false)
}
