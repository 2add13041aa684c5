package term

import (
	"math/rand"
	"slices"
	"strings"
	"testing"

	"pleach/api"
)

// spelt are texts and their terms.
func spelt() map[string]api.Term {
	a, b, c := name("a"), name("b"), name("c")
	long := strings.Repeat("a", 31) + "Z"
	return map[string]api.Term{
		"0": num(0), "1": num(1), "9": num(9), "10": num(10), "100": num(100), "-1": num(-1), "-10": num(-10), "-9": num(-9),
		"576460752303423487": num(top), "-576460752303423487": num(-top), "-576460752303423488": num(bottom),
		"a": a, "a_B1": name("a_B1"), "aB": name("aB"), "fun": name("fun"), "funny": name("funny"), "fun_": name("fun_"), "fun1": name("fun1"), "nil": name("nil"), long: name(long),
		"#Ref<0>": mark(0), "#Ref<7>": mark(7), "#Ref<10>": mark(10), "#Ref<576460752303423487>": mark(top),
		"<0>": proc(0), "<3>": proc(3), "<20>": proc(20), "<576460752303423487>": proc(top),
		"fun m:f/0": funOf("m", "f", 0), "fun m:f/2": funOf("m", "f", 2), "fun m:f/8": funOf("m", "f", 8), "fun fun:fun/1": funOf("fun", "fun", 1), "fun a_B:c9/3": funOf("a_B", "c9", 3), "fun " + long + ":" + long + "/8": funOf(long, long, 8),
		"{}": row(), "{a}": row(a), "{a,b}": row(a, b), "{{}}": row(row()), "{{},{a},1}": row(row(), row(a), num(1)), "{[],[]}": row(none(), none()),
		"{fun}": row(name("fun")), "{fun,fun m:f/0,fun}": row(name("fun"), funOf("m", "f", 0), name("fun")), "{-1,<0>,#Ref<0>}": row(num(-1), proc(0), mark(0)),
		"[]": none(), "[a]": list(a), "[a,b]": list(a, b), "[a,b,c]": list(a, b, c), "[[]]": list(none()), "[[],[]]": list(none(), none()), "[[[a],b],c]": list(list(list(a), b), c),
		"[a|b]": pair(a, b), "[a,b|c]": pair(a, pair(b, c)), "[[a|b]|c]": pair(pair(a, b), c), "[[]|c]": pair(none(), c), "[[a]|c]": pair(list(a), c), "[a|{}]": pair(a, row()), "[a,[b|c]]": list(a, pair(b, c)),
		"[a|-1]": pair(a, num(-1)), "[a|0]": pair(a, num(0)), "[a|<1>]": pair(a, proc(1)), "[a|#Ref<1>]": pair(a, mark(1)), "[a|fun m:f/1]": pair(a, funOf("m", "f", 1)), "[a|fun]": pair(a, name("fun")), "[a|{[],[b]}]": pair(a, row(none(), list(b))),
		"{a,[1,2|b]}": row(a, pair(num(1), pair(num(2), b))),
	}
}

func wantRead(t *testing.T, s string, want api.Term, used int, e api.Errno) {
	t.Helper()
	got, gotUsed, gotE := Read(s)
	if gotE != e || gotUsed != used || !same(got, want) {
		t.Errorf("%.300q: %s %d %v, not %s %d %v", s, show(got), gotUsed, gotE, show(want), used, e)
	}
}

func wantRefused(t *testing.T, e api.Errno, texts ...string) {
	t.Helper()
	for _, s := range texts {
		wantRead(t, s, api.Term{}, 0, e)
	}
}

// P3.4
func TestText(t *testing.T) {
	for s, x := range spelt() {
		if got := Text(x); got != s {
			t.Errorf("%q, not %q", got, s)
		}
	}
	for _, x := range append(wrong(), wide(257), deep(257), chain(257), comb(257)) {
		for _, y := range []api.Term{x, row(num(1), x), pair(x, none()), pair(none(), x), list(x)} {
			if got := Text(y); got != "" {
				t.Errorf("%s: %.200q", show(y), got)
			}
		}
	}
}

// P3.4: a text, and behind it what goes on no name and no number.
func TestRead(t *testing.T) {
	for s, x := range spelt() {
		for _, behind := range []string{"", " ", ",", ".", "]", "}", ">", "|", "(", ":f", "/2", " m:f", "-1", "<1>", "[]", "{}", "#Ref<1>", "\x00", "\xff", "é", "\n", "\"", "'", "@", "`"} {
			wantRead(t, s+behind, x, len(s), api.OK)
		}
	}
}

// P3.4: names and digits go on as long as they go.
func TestReadAsLongAsTheyGo(t *testing.T) {
	wantRead(t, "12ab", num(12), 2, api.OK)
	wantRead(t, "1_", num(1), 1, api.OK)
	wantRead(t, "0x", num(0), 1, api.OK)
	wantRead(t, "-1a", num(-1), 2, api.OK)
	wantRead(t, "-5-5", num(-5), 2, api.OK)
	wantRead(t, "a12", name("a12"), 3, api.OK)
	wantRead(t, "aA_", name("aA_"), 3, api.OK)
	wantRead(t, "aé", name("a"), 1, api.OK)
	wantRead(t, "fun m:f/8a", funOf("m", "f", 8), 9, api.OK)
	wantRead(t, "fun m1:f1/8_", funOf("m1", "f1", 8), 11, api.OK)
	wantRead(t, "funm:f/8", name("funm"), 4, api.OK)
	wantRead(t, strings.Repeat("a", 32)+"-", name(strings.Repeat("a", 32)), 32, api.OK)
	wantRefused(t, api.ErrArg, strings.Repeat("a", 33), strings.Repeat("a", 5000), "{"+strings.Repeat("a", 33)+"}", "fun"+strings.Repeat("a", 30), "{12ab}", "[a|1b]")
}

// P3.4: "fun " that goes on as no fun's text is the atom.
func TestReadFunAtom(t *testing.T) {
	long := strings.Repeat("a", 33)
	for _, behind := range []string{
		"", " ", "m", "m:", "m:f", "m:f/", "m:f/x", "m:f/9", "m:f/10", "m:f/12", "m:f/80", "m:f/-1", "m:f/00", "m:f/01", "m:f/08", "m:f/ 1", "m:f/A", "m:f/99999999999999999999", "m:f/576460752303423488",
		"m/1", "m:/1", ":f/1", "m f/1", "m:f 1", "m: f/1", "m :f/1", "m:f /1", " m:f/1", "M:f/1", "m:F/1", "_:f/1", "m:_/1", "1:f/1", "m:1/1", "m:f:1", "m/f/1", "m::f/1",
		long + ":f/1", "m:" + long + "/1", "{}", "[]", "fun", "fun m:f/1", "-1", "\xff",
	} {
		wantRead(t, "fun "+behind, name("fun"), 3, api.OK)
		wantRefused(t, api.ErrArg, "{fun "+behind+"}", "[fun "+behind+"]", "[a|fun "+behind+"]")
	}
	wantRead(t, "fun\tm:f/1", name("fun"), 3, api.OK)
	wantRead(t, "fun  m:f/1", name("fun"), 3, api.OK)
}

// P3.4: ErrArg, where no text goes on so.
func TestReadNone(t *testing.T) {
	for s := range spelt() {
		wantRefused(t, api.ErrArg, " "+s, ","+s, "|"+s, "}"+s, "]"+s, ">"+s, "("+s, "'"+s, "\x00"+s, "é"+s, "+"+s, "{"+s, "["+s, "{"+s+"]", "["+s+"}", "{"+s+",}", "["+s+",]", "["+s+"|]", "{"+s+",,a}", "["+s+" ,a]", "["+s+", a]", "{"+s+"|a}", "[|"+s+"]", "{,"+s+"}", "[,"+s+"]", "[a|"+s+",b]", "[a|"+s+"|b]", "[a|"+s, "[a|"+s+"}", "{ "+s+"}", "{"+s+" }")
	}
	wantRefused(t, api.ErrArg, "", " ", "A", "_", "_a", "Abc", "é", "\xff", "\x00", "\n", "'a'", "\"a\"", "$a", "+1", ".", "--1", "- 1", "-a", "-", "-[]", "-<1>", "~", "{", "[", "{a", "[a", "[a|", "{a,", "[a,", "[a|b", "}", "]", ">", "|", ",", "{,}", "[,]", "[|]", "[a|]", "[|a]", "{A}", "[A]", "[a|A]")
	wantRefused(t, api.ErrArg, "<", "<>", "<5", "<5x>", "<a>", "<-1>", "<-0>", "<+1>", "< 5>", "<5 >", "<5,", "<5.0>", "<0.5.0>", "<<5>>", "<5|")
	wantRefused(t, api.ErrArg, "#", "#R", "#Re", "#Ref", "#Ref<", "#Ref<>", "#Ref<5", "#Ref<5x>", "#Ref<a>", "#Ref<-1>", "#Ref 5", "#ref<5>", "#REF<5>", "#Ref <5>", "#Ref< 5>", "#Pid<5>", "# Ref<5>", "#Ref5", "##Ref<5>")
}

// P3.4: numbers have no noughts ahead, and no - ahead of 0.
func TestReadNoughts(t *testing.T) {
	wantRefused(t, api.ErrArg, "00", "01", "007", "-0", "-00", "-01", "-007", "-0a", "<00>", "<01>", "<-0>", "#Ref<00>", "#Ref<01>", "{01}", "[-0]", "[a|00]")
	// They are met ahead of what makes a number too great.
	wantRefused(t, api.ErrArg, "099999999999999999999", "-099999999999999999999", "<099999999999999999999>", "#Ref<099999999999999999999>", "0576460752303423488", "-0576460752303423488", "000000000000000000000000000001", "00000000000000000000000000")
}

// P3.4: MaxInt, and one more.
func TestReadGreat(t *testing.T) {
	for _, n := range []string{"576460752303423488", "576460752303423489", "576460752303423490", "576460752303423500", "999999999999999999", "1000000000000000000", "9223372036854775807", "9223372036854775808", "18446744073709551616", "18446744073709551617", strings.Repeat("9", 1000)} {
		wantRefused(t, api.ErrLimit, n, n+"x", n+"}", "{"+n, "{a,"+n+"}", "["+n+"|", "[a|"+n, "<"+n+">", "<"+n, "<"+n+"x", "#Ref<"+n+">", "#Ref<"+n+"{", "{"+n+",A}", "{"+n+",01}")
		wantRefused(t, api.ErrArg, "{A,"+n+"}", "{01,"+n+"}", "{a "+n+"}", "<a"+n+">", "<-"+n+">", "#Ref<-"+n+">", "--"+n)
		if n != "576460752303423488" {
			wantRefused(t, api.ErrLimit, "-"+n, "-"+n+"x", "{-"+n, "[a|-"+n)
		}
	}
	wantRead(t, "-576460752303423488x", num(bottom), 19, api.OK)
	wantRead(t, "{-576460752303423488,576460752303423487}", row(num(bottom), num(top)), 40, api.OK)
	wantRefused(t, api.ErrLimit, "-5764607523034234880", "-576460752303423489")
}

// P3.4: what stands behind | is read as any part is, and refused behind that, if it is a list.
func TestReadTail(t *testing.T) {
	wantRefused(t, api.ErrArg, "[a|[]]", "[a|[b]]", "[a|[b|c]]", "[a|[b,c]]", "[a|[]", "[a|[b]", "[a|[b]}", "[a|[b],c]", "[a,b|[]]", "[[a|[]]]", "{[a|[b]]}")
	great := "576460752303423488"
	wantRefused(t, api.ErrLimit, "[a|["+great, "[a|["+great+"]]", "[a|["+great+"x", "[a|{"+great, "[a|[b|"+great)
	wantRefused(t, api.ErrArg, "[a|[b],"+great, "[a|[]"+great+"]", "[a|[b|c]|"+great, "{[a|[]],"+great+"}", "[a|[b]]"+great, "[a|b,"+great+"]")
	wantRead(t, "[a|{[]}]", pair(name("a"), row(none())), 8, api.OK)
	wantRead(t, "[[a|b],c]", list(pair(name("a"), name("b")), name("c")), 9, api.OK)
}

// many is n parts with commas between.
func many(n int, part string) string {
	return strings.Repeat(part+",", n)
}

// P3.4: the (MaxTerm + 1)-th part that is begun.
func TestReadBegun(t *testing.T) {
	ahead := "{" + many(255, "1") // 256 are begun
	for _, s := range []string{"a", "z", "A", "Z", "_", "0", "9", "00", "-", "-x", "-0", "#", "#x", "#Ref<1>", "<", "<x", "{", "{}", "[", "[]", "fun m:f/1", strings.Repeat("a", 33), "99999999999999999999", "007"} {
		wantRefused(t, api.ErrLimit, ahead+s, ahead+s+"}")
	}
	for _, s := range []string{"", " ", "}", "]", ",", "|", ">", "(", ".", ":", "/", "@", "`", "\"", "'", "+", "*", "\x00", "\x7f", "\x80", "\xff", "é", "\n"} {
		wantRefused(t, api.ErrArg, ahead+s)
		if s != "" {
			wantRefused(t, api.ErrArg, ahead+s+"a", ahead+s+"a}")
		}
	}
	for b := range 256 {
		s := string([]byte{byte(b)})
		e := api.ErrArg
		if strings.ContainsAny(s, "{[<#-_0123456789abcdefghijklmnopqrstuvwxyzABCDEFGHIJKLMNOPQRSTUVWXYZ") {
			e = api.ErrLimit
		}
		wantRefused(t, e, ahead+s, "["+many(255, "a")+s, "{["+many(253, "a")+"a|"+s)
	}
}

// P3.4: each kind of part counts as one; what is met ahead is told.
func TestReadBegunKinds(t *testing.T) {
	for s, x := range map[string]api.Term{"1": num(1), "-1": num(-1), "a": name("a"), "<1>": proc(1), "#Ref<1>": mark(1), "fun": name("fun"), "fun m:f/1": funOf("m", "f", 1), "{}": row(), "[]": none()} {
		wantRefused(t, api.ErrLimit, "{"+many(255, s)+s+"}", "{"+many(255, s)+s, "{a,"+many(254, s)+s+"]")
		wantRefused(t, api.ErrArg, "{"+many(253, s)+s+"]", "{"+many(254, s)+s)
		full := "{" + many(254, s) + s + "}"
		wantRead(t, full+s, row(slices.Repeat([]api.Term{x}, 255)...), len(full), api.OK)
	}
	wantRefused(t, api.ErrLimit, strings.Repeat("{", 257), strings.Repeat("[", 257), strings.Repeat("{", 5000), strings.Repeat("[a|", 200), strings.Repeat("[", 300)+strings.Repeat("]", 300))
	wantRefused(t, api.ErrArg, strings.Repeat("{", 256), strings.Repeat("[", 256), strings.Repeat("{", 256)+"(", strings.Repeat("[a|", 128))
	wantRefused(t, api.ErrLimit, strings.Repeat("{", 256)+"a")
	full := strings.Repeat("{", 256) + strings.Repeat("}", 256)
	wantRead(t, full, deep(256), len(full), api.OK)
	// Lists count once where they are begun, though they have more nodes.
	wantRefused(t, api.ErrArg, "["+many(254, "a")+"a}", "["+many(200, "a")+"A")
	wantRefused(t, api.ErrLimit, "["+many(255, "a")+"a}", "["+many(254, "a")+"a|b}")
	wantRefused(t, api.ErrArg, "["+many(253, "a")+"a|b}", "["+many(253, "a")+"a|[]}")
}

// P3.4: at the end ErrLimit, if there are more than MaxTerm nodes.
func TestReadNodes(t *testing.T) {
	full := "[" + many(126, "a") + "a]" // 255 nodes
	wantRead(t, full, list(slices.Repeat([]api.Term{name("a")}, 127)...), len(full), api.OK)
	wantRead(t, "{"+full+"}", row(list(slices.Repeat([]api.Term{name("a")}, 127)...)), len(full)+2, api.OK)
	wantRefused(t, api.ErrLimit, "{"+full+",a}", "{a,"+full+"}", "["+full+"]", "["+many(127, "a")+"a]", "["+many(127, "a")+"a]x", "["+many(127, "a")+"a|b]", "["+many(254, "a")+"a]")
	// The end is behind all.
	great := "[" + many(199, "a") + "a]"
	wantRefused(t, api.ErrArg, "{"+great, "{"+great+",A}", "{"+great+",01}", "[a|"+great+"]", "["+great+"|[]]", great[:len(great)-1], great[:len(great)-1]+"}")
	wantRefused(t, api.ErrLimit, "{"+great+"}", "{"+great+",99999999999999999999")
	edge := "[" + many(125, "a") + "a,{a}]" // 256 nodes
	wantRead(t, edge, list(append(slices.Repeat([]api.Term{name("a")}, 126), row(name("a")))...), len(edge), api.OK)
	edge = "[" + many(125, "a") + "{a}|{a,a}]"
	if x, used, e := Read(edge); e != api.OK || used != len(edge) || Size(x) != 126+125+2+3 {
		t.Error(used, e, Size(x))
	}
	wantRefused(t, api.ErrLimit, "["+many(125, "a")+"{a}|{a,a,a}]")
}

// P3.4: a great text is gone through once.
func TestReadLong(t *testing.T) {
	n := 1 << 22
	wantRead(t, "a "+strings.Repeat("a", n), name("a"), 1, api.OK)
	wantRead(t, "fun "+strings.Repeat("a", n), name("fun"), 3, api.OK)
	wantRead(t, "fun m:f/1"+strings.Repeat("a", n), funOf("m", "f", 1), 9, api.OK)
	wantRefused(t, api.ErrArg, strings.Repeat("a", n), "{"+strings.Repeat("a", n), strings.Repeat("0", n), strings.Repeat("_", n))
	wantRefused(t, api.ErrLimit, strings.Repeat("9", n), "-"+strings.Repeat("9", n), "<"+strings.Repeat("9", n), strings.Repeat("{", n), strings.Repeat("[", n), "{"+strings.Repeat("a,", n))
}

// P3.5: Read of Text is the term.
func TestReadOfText(t *testing.T) {
	for _, x := range slices.Concat(someTerms(3000), flat(), built(), rising()) {
		s := Text(x)
		if s == "" {
			t.Fatal("no text", show(x))
		}
		for _, behind := range []string{"", ",", " "} {
			wantRead(t, s+behind, x, len(s), api.OK)
		}
	}
}

// P3.4, P3.5: of texts that were changed some are read: just those that are texts.
func TestTextOfRead(t *testing.T) {
	r := rand.New(rand.NewSource(5))
	bytes := "ab1205 fun:/8{}[]<>#-|,,,,Ref\x00\xff_A"
	var texts []string
	for s := range spelt() {
		texts = append(texts, s)
	}
	slices.Sort(texts)
	read := 0
	for range 100000 {
		s := []byte(texts[r.Intn(len(texts))])
		for range 1 + r.Intn(3) {
			at := r.Intn(len(s) + 1)
			switch r.Intn(3) {
			case 0:
				s = slices.Insert(s, at, bytes[r.Intn(len(bytes))])
			case 1:
				s = slices.Delete(s, min(at, max(len(s)-1, 0)), min(at+1, len(s)))
			case 2:
				s = append(s[:at:at], texts[r.Intn(len(texts))]...)
			}
		}
		x, used, e := Read(string(s))
		if e == api.OK {
			read++
			if Check(x) != api.OK || Text(x) != string(s[:used]) {
				t.Fatalf("%q: %q %d", s, Text(x), used)
			}
		} else if used != 0 || !same(x, api.Term{}) || e != api.ErrArg && e != api.ErrLimit {
			t.Fatalf("%q: %s %d %v", s, show(x), used, e)
		}
	}
	if read < 1000 {
		t.Error("few were read", read)
	}
}
