package collect

import (
	"testing"

	"pleach/api"
	"pleach/heap"
)

func wantSame(t *testing.T, h *heap.Heap, a api.Word, o *heap.Heap, b api.Word, want bool) {
	t.Helper()
	if Same(h, a, o, b) != want || Same(o, b, h, a) != want {
		t.Errorf("%v %v: not %v", a, b, want)
	}
}

// P5.2: terms that differ in anything are not the same, equal ones are, in one heap and in two.
func TestSame(t *testing.T) {
	texts := []string{
		"0", "1", "-1", "a", "b", "fun", "#Ref<0>", "#Ref<1>", "<0>", "<1>", "fun m:f/0", "fun m:f/1", "fun m:g/0", "fun n:f/0", "[]",
		"{}", "{0}", "{[]}", "{a}", "{{}}", "{{0}}", "{0,1}", "{1,0}", "{0,1,0}", "[0]", "[0|1]", "[0|a]", "[1|0]", "[0,1]", "[[0],1]", "[[0]|1]", "[{}]", "{[0]}", "{[0],{}}", "{{},[0]}",
		"{a,[1,2|b],{{},<1>}}", "{a,[1,2|b],{{},<2>}}", "{a,[1,2|b],{{},#Ref<1>}}", "{a,[1,2],{{},<1>}}",
	}
	h, l := put(t, texts...)
	var back []string
	for i := range texts {
		back = append(back, texts[len(texts)-1-i])
	}
	o, m := put(t, back...)
	for i := range texts {
		for j := range texts {
			wantSame(t, h, l[i], h, l[j], i == j)
			wantSame(t, h, l[i], o, m[len(m)-1-j], i == j)
		}
	}
}

// P5.2: what shares cells is the same as what does not.
func TestSameShared(t *testing.T) {
	h := build(t, []api.Word{one()}, ats(0, 0), ats(1, 1))
	o, l := put(t, "{1}", "{{1},{1}}", "{{{1},{1}},{{1},{1}}}", "{{{1},{1}},{{1},{2}}}")
	for n := range 3 {
		for i, w := range l {
			wantSame(t, h, at(n), o, w, n == i)
		}
	}
}

// P5.2: what can't be read is the same as nothing, itself included.
func TestSameWrong(t *testing.T) {
	h, l := put(t, "{{1},2}", "[a|b]", "5")
	o, _ := put(t, "{{1},2}", "[a|b]", "5")
	wrong := wrongWords(h.Len())
	for _, w := range wrong {
		for _, v := range append(wrong, l...) {
			wantSame(t, h, w, h, v, false)
			wantSame(t, h, w, o, v, false)
		}
	}
	// A place that one of both has.
	o.Make(api.KTuple, nil)
	wantSame(t, h, at(3), o, at(3), false)
	wantSame(t, h, at(3), h, at(3), false)
	wantSame(t, o, at(3), o, at(3), true)
}

// P5.2: nothing can be read in no heap.
func TestSameNoHeap(t *testing.T) {
	h, l := put(t, "{1}", "5", "0")
	for _, w := range append(l, append(wrongWords(0), api.Word{}, one())...) {
		wantSame(t, nil, w, nil, w, false)
		for _, v := range l {
			wantSame(t, nil, w, h, v, false)
		}
	}
}
