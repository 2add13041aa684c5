package atoms

import (
	"iter"
	"math"
	"slices"
	"strconv"
	"strings"
	"testing"

	"pleach/api"
)

const (
	smalls = "abcdefghijklmnopqrstuvwxyz"
	greats = "ABCDEFGHIJKLMNOPQRSTUVWXYZ"
	digits = "0123456789"
)

// noAtoms are texts that may be no atom.
func noAtoms() []string {
	return []string{
		"", " ", "A", "Z", "_", "_a", "0", "9a", "`", "{", "@", "[", "\x00", "\xff", "\n",
		"a ", " a", "a-b", "a.", "a@b", "a`", "a{", "a[", "a/", "a:", "a^", "a\x00", "a\x7f", "a\x80", "'a'",
		"é", "aé", "a\u0660", "\u212a", "ａ", "ſ",
		strings.Repeat("a", 33), "a" + strings.Repeat("9", 32), strings.Repeat("a", 5000), strings.Repeat("a", 31) + "é", strings.Repeat("a", 31) + "-",
	}
}

// someAtoms are n atoms, no two the same.
func someAtoms(n int) []string {
	var l []string
	for i := range n {
		l = append(l, "a"+strconv.Itoa(i))
	}
	return l
}

// P2.1: each byte, alone, first, and behind one that may stand there.
func TestBytes(t *testing.T) {
	for i := range 256 {
		b := string([]byte{byte(i)})
		atom := strings.Contains(smalls, b)
		name := strings.Contains(greats+"_", b)
		part := atom || name || strings.Contains(digits, b)
		for _, c := range []struct {
			s          string
			atom, name bool
		}{
			{b, atom, name},
			{b + "a", atom, name},
			{b + "_0Zz", atom, name},
			{"a" + b, part, false},
			{"A" + b, false, part},
			{"_" + b, false, part},
			{"0" + b, false, false},
			{"a0" + b + "Z", part, false},
			{"_0" + b + "Z", false, part},
		} {
			wantNamed(t, c.s, c.atom, c.name)
		}
		want := 0
		if part {
			want = 1
		}
		wantPrefix(t, b, want)
		wantPrefix(t, "aZ_9"+b, 4+want)
		wantPrefix(t, "9"+b+"-", 1+want)
	}
}

func wantNamed(t *testing.T, s string, atom, name bool) {
	t.Helper()
	if May(s) != atom || Name(s) != name {
		t.Errorf("%.40q: %v %v, not %v %v", s, May(s), Name(s), atom, name)
	}
}

func wantPrefix(t *testing.T, s string, n int) {
	t.Helper()
	if got := Prefix(s); got != n {
		t.Errorf("%.40q: %d, not %d", s, got, n)
	}
}

// P2.1: 1 to 32 bytes, and one more.
func TestLengths(t *testing.T) {
	for n := range 70 {
		fits := 1 <= n && n <= 32
		wantNamed(t, strings.Repeat("a", n), fits, false)
		wantNamed(t, strings.Repeat("X", n), false, fits)
		wantNamed(t, strings.Repeat("_", n), false, fits)
		wantNamed(t, strings.Repeat("7", n), false, false)
	}
	wantNamed(t, "a"+strings.Repeat("0", 31), true, false)
	wantNamed(t, "a"+strings.Repeat("0", 32), false, false)
	wantNamed(t, "_"+strings.Repeat("z", 31), false, true)
	wantNamed(t, "_"+strings.Repeat("z", 32), false, false)
	wantNamed(t, strings.Repeat("a", 1<<20), false, false)
}

// P2.1
func TestMayNot(t *testing.T) {
	for _, s := range noAtoms() {
		if May(s) {
			t.Errorf("%.40q", s)
		}
	}
}

// P2.1: as many bytes as there are, more than a name may have, too.
func TestPrefix(t *testing.T) {
	long := strings.Repeat("aZ_9", 1<<16)
	for s, n := range map[string]int{
		"": 0, "a": 1, "9": 1, "_": 1, " a": 0, "-": 0,
		"a_B1": 4, "a-b": 1, "foo(X)": 3, "Foo Bar": 3, "12ab.": 4, "__": 2, "a\x00b": 1, "éa": 0, "aé": 1, "ab\u212a": 2,
		strings.Repeat("a", 32): 32, strings.Repeat("a", 33): 33,
		long: len(long), long + ".": len(long), "." + long: 0,
	} {
		wantPrefix(t, s, n)
	}
}

// P2.2
func TestNew(t *testing.T) {
	for _, most := range []int{1, 2, 3, 1<<16 - 1, 1 << 16} {
		x, e := New(most)
		if x == nil || e != api.OK {
			t.Fatal(most, e)
		}
		if x.Len() != 0 {
			t.Error(most, x.Len())
		}
		wantAll(t, x.All(), nil)
	}
	for _, most := range []int{0, -1, -2, 1<<16 + 1, 1 << 17, 1 << 32, 1<<32 + 1, math.MaxInt, math.MinInt} {
		if x, e := New(most); x != nil || e != api.ErrArg {
			t.Error(most, x, e)
		}
	}
}

func made(t *testing.T, most int, atoms ...string) *Table {
	t.Helper()
	x, e := New(most)
	if e != api.OK {
		t.Fatal(most, e)
	}
	for n, s := range atoms {
		wantPut(t, x, s, n, api.OK)
	}
	return x
}

func wantPut(t *testing.T, x *Table, s string, n int, e api.Errno) {
	t.Helper()
	if gotN, gotE := x.Put(s); gotN != n || gotE != e {
		t.Errorf("Put %.40q: %d %d, not %d %d", s, gotN, gotE, n, e)
	}
}

func wantOf(t *testing.T, x *Table, s string, n int, ok bool) {
	t.Helper()
	if gotN, gotOK := x.Of(s); gotN != n || gotOK != ok {
		t.Errorf("Of %.40q: %d %v, not %d %v", s, gotN, gotOK, n, ok)
	}
}

func wantText(t *testing.T, x *Table, n int, s string, e api.Errno) {
	t.Helper()
	if gotS, gotE := x.Text(n); gotS != s || gotE != e {
		t.Errorf("Text %d: %q %d, not %q %d", n, gotS, gotE, s, e)
	}
}

// wantAll: all tells just these, numbered from 0 on.
func wantAll(t *testing.T, all iter.Seq2[int, string], want []string) {
	t.Helper()
	var got []string
	for n, s := range all {
		if n != len(got) {
			t.Error("number", n, "at", len(got))
		}
		got = append(got, s)
	}
	if !slices.Equal(got, want) {
		t.Errorf("%.100q, not %.100q", got, want)
	}
}

// P2.2
func TestPut(t *testing.T) {
	x := made(t, 10)
	for i, s := range []string{"a", "b", "a", "c", "b", "a_B1", "a_b1", "c", "a_B1"} {
		wantPut(t, x, s, []int{0, 1, 0, 2, 1, 3, 4, 2, 3}[i], api.OK)
	}
	wantAll(t, x.All(), []string{"a", "b", "c", "a_B1", "a_b1"})
}

// P2.2: a table of one atom, and of none more.
func TestPutIntoOne(t *testing.T) {
	x := made(t, 1)
	wantPut(t, x, "", 0, api.ErrArg)
	wantPut(t, x, "only", 0, api.OK)
	wantPut(t, x, "more", 0, api.ErrFull)
	wantPut(t, x, "only", 0, api.OK)
	wantPut(t, x, "Only", 0, api.ErrArg)
	wantAll(t, x.All(), []string{"only"})
}

// P2.2: a full table tells what it has, takes nothing, and first asks whether it may be.
func TestPutIntoFull(t *testing.T) {
	x := made(t, 3, "a", "b", "c")
	for range 3 {
		wantPut(t, x, "d", 0, api.ErrFull)
		wantPut(t, x, "X", 0, api.ErrArg)
		wantPut(t, x, "b", 1, api.OK)
		wantPut(t, x, "c", 2, api.OK)
		wantOf(t, x, "d", 0, false)
		wantText(t, x, 3, "", api.ErrNone)
		if x.Len() != 3 {
			t.Error(x.Len())
		}
	}
	wantAll(t, x.All(), []string{"a", "b", "c"})
}

// P2.2: the greatest table there is.
func TestPutIntoGreatest(t *testing.T) {
	l := someAtoms(1<<16 + 1)
	x := made(t, 1<<16, l[:1<<16]...)
	wantPut(t, x, l[1<<16], 0, api.ErrFull)
	wantPut(t, x, l[1<<16-1], 1<<16-1, api.OK)
	wantPut(t, x, l[0], 0, api.OK)
	wantText(t, x, 1<<16-1, l[1<<16-1], api.OK)
	wantText(t, x, 1<<16, "", api.ErrNone)
	wantAll(t, x.All(), l[:1<<16])
}

// P2.2: what is refused changes nothing.
func TestPutRefused(t *testing.T) {
	x := made(t, 5, "a")
	for _, s := range noAtoms() {
		wantPut(t, x, s, 0, api.ErrArg)
		wantOf(t, x, s, 0, false)
	}
	wantAll(t, x.All(), []string{"a"})
	wantPut(t, x, "b", 1, api.OK)
}

// P2.2
func TestOf(t *testing.T) {
	x := made(t, 5, "a", "b", "c")
	for n, s := range []string{"a", "b", "c"} {
		wantOf(t, x, s, n, true)
	}
	for _, s := range []string{"d", "aa", "A", "", "a "} {
		wantOf(t, x, s, 0, false)
	}
	if x.Len() != 3 {
		t.Error("Of put", x.Len())
	}
	wantPut(t, x, "d", 3, api.OK)
	wantOf(t, x, "d", 3, true)
}

// P2.3: the first number and the last one, and one past each.
func TestText(t *testing.T) {
	x := made(t, 5)
	wantText(t, x, 0, "", api.ErrNone)
	x = made(t, 5, "a", "b", "c")
	for n, s := range []string{"a", "b", "c"} {
		wantText(t, x, n, s, api.OK)
	}
	for _, n := range []int{-1, 3, 4, 5, 1 << 32, math.MaxInt, math.MinInt} {
		wantText(t, x, n, "", api.ErrNone)
	}
}

// P2.3: each atom counts once.
func TestLen(t *testing.T) {
	x := made(t, 3)
	for i, s := range []string{"a", "a", "b", "B", "a", "c", "d"} {
		x.Put(s)
		if want := []int{1, 1, 2, 2, 2, 3, 3}[i]; x.Len() != want {
			t.Error(i, x.Len(), want)
		}
	}
}

// P2.3: left early at each place, and gone over again.
func TestAllLeftEarly(t *testing.T) {
	l := []string{"a", "b", "c"}
	all := made(t, 3, l...).All()
	for stop := range l {
		var got []string
		for n, s := range all {
			got = append(got, s)
			if n == stop {
				break
			}
		}
		if !slices.Equal(got, l[:stop+1]) {
			t.Error(stop, got)
		}
		wantAll(t, all, l)
	}
}

// P2.3 and R4: All tells what there was when it was asked for.
func TestAllAheadOfPut(t *testing.T) {
	l := someAtoms(100)
	x := made(t, 100)
	var alls []iter.Seq2[int, string]
	for n, s := range l {
		alls = append(alls, x.All())
		wantPut(t, x, s, n, api.OK)
	}
	for n, all := range alls {
		wantAll(t, all, l[:n])
	}
	wantAll(t, x.All(), l)
}

// P2.3: atoms that come in while it is gone over are not told.
func TestAllDuringPut(t *testing.T) {
	x := made(t, 10, "a", "b")
	count := 0
	for n, s := range x.All() {
		wantPut(t, x, s+"_new", n+2, api.OK)
		count++
	}
	if count != 2 {
		t.Error(count)
	}
	wantAll(t, x.All(), []string{"a", "b", "a_new", "b_new"})
}

// P2.2, P2.3 and R1
func TestNilTable(t *testing.T) {
	var none *Table
	wantPut(t, none, "a", 0, api.ErrNil)
	wantPut(t, none, "", 0, api.ErrNil)
	wantOf(t, none, "a", 0, false)
	wantText(t, none, 0, "", api.ErrNil)
	wantText(t, none, -1, "", api.ErrNil)
	if none.Len() != 0 {
		t.Error(none.Len())
	}
	if none.All() == nil {
		t.Fatal("no iterator")
	}
	wantAll(t, none.All(), nil)
}

// R1: a table that New did not make has room for none.
func TestZeroTable(t *testing.T) {
	x := new(Table)
	wantPut(t, x, "A", 0, api.ErrArg)
	wantPut(t, x, "a", 0, api.ErrFull)
	wantOf(t, x, "a", 0, false)
	wantText(t, x, 0, "", api.ErrNone)
	wantAll(t, x.All(), nil)
}

// R3: tables have nothing to do with each other.
func TestTwoTables(t *testing.T) {
	x, y := made(t, 2, "a", "b"), made(t, 2, "b")
	wantPut(t, y, "a", 1, api.OK)
	wantPut(t, x, "a", 0, api.OK)
	wantAll(t, x.All(), []string{"a", "b"})
	wantAll(t, y.All(), []string{"b", "a"})
}

// P2.4: each atom put some times, in an order that mixes the new ones with the old ones.
func TestNumbersStay(t *testing.T) {
	l := someAtoms(499)
	x := made(t, len(l))
	numbers := map[string]int{}
	for i := range 5 * len(l) {
		s := l[i*i*7%len(l)]
		n, e := x.Put(s)
		if old, ok := numbers[s]; ok && n != old || e != api.OK {
			t.Error(s, n, old, e)
		}
		numbers[s] = n
		wantText(t, x, n, s, api.OK)
		wantOf(t, x, s, n, true)
	}
	owners := map[int]string{}
	for s, n := range numbers {
		if other, ok := owners[n]; ok {
			t.Error(s, "and", other, "have", n)
		}
		owners[n] = s
		wantText(t, x, n, s, api.OK)
	}
	if x.Len() != len(numbers) {
		t.Error(x.Len(), len(numbers))
	}
	for n, s := range x.All() {
		if numbers[s] != n {
			t.Error(n, s)
		}
	}
}
