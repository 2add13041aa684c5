package scan

import (
	"math"
	"math/big"
	"math/rand"
	"regexp"
	"slices"
	"strconv"
	"strings"
	"sync"
	"testing"

	"pleach/api"
)

const (
	allWords = "module when case of end try catch receive after fun div rem config"
	allMarks = "-> =:= =/= =< >= < > = + - * ( ) [ ] { } , ; | : /"
)

func atom(s string, at int) api.Token { return api.Token{K: api.TkAtom, S: s, At: at} }
func variable(s string, at int) api.Token {
	return api.Token{K: api.TkVar, S: s, At: at}
}
func num(n, at int) api.Token         { return api.Token{K: api.TkInt, N: n, At: at} }
func word(s string, at int) api.Token { return api.Token{K: api.TkWord, S: s, At: at} }
func stop(at int) api.Token           { return api.Token{K: api.TkEnd, At: at} }

// wantNext holds what Next answers, and asks it again: nothing is kept.
func wantNext(t *testing.T, s string, at int, tk api.Token, end int, f api.Flaw) {
	t.Helper()
	for range 2 {
		if got, e, g := Next(s, at); got != tk || e != end || g != f {
			t.Errorf("%.60q at %d: %v %d %v, not %v %d %v", s, at, got, e, g, tk, end, f)
		}
	}
}

// wantToken holds that s, all of it, is one token.
func wantToken(t *testing.T, s string, tk api.Token) {
	t.Helper()
	wantNext(t, s, 0, tk, len(s), api.Flaw{})
	wantScan(t, s, tk)
}

// wantFlaw holds the first flaw of a text, told by Scan, and by Next at its place.
func wantFlaw(t *testing.T, s string, e api.Errno, at int) {
	t.Helper()
	if l, f := Scan(s); len(l) != 0 || f != (api.Flaw{E: e, At: at}) {
		t.Errorf("%.60q: %v %v, not %v at %d", s, l, f, e, at)
	}
	wantNext(t, s, at, api.Token{}, at, api.Flaw{E: e, At: at})
}

// wantScan holds the tokens of s, by Scan, by Each and by Next again and again.
func wantScan(t *testing.T, s string, want ...api.Token) {
	t.Helper()
	if l, f := Scan(s); !slices.Equal(l, want) || f != (api.Flaw{}) {
		t.Errorf("%.60q: %v %v, not %v", s, l, f, want)
	}
	wantEach(t, s, want...)
	at := 0
	for _, tk := range want {
		got, end, f := Next(s, at)
		if got != tk || f != (api.Flaw{}) || end <= tk.At {
			t.Errorf("%.60q at %d: %v %d %v, not %v", s, at, got, end, f, tk)
			return
		}
		at = end
	}
	wantNext(t, s, at, api.Token{}, len(s), api.Flaw{E: api.ErrScan, At: len(s)})
}

func wantEach(t *testing.T, s string, want ...api.Token) {
	t.Helper()
	n := 0
	for k, tk := range Each(s) {
		if k != n || k >= len(want) || tk != want[k] {
			t.Errorf("%.60q: %d %v behind %d of %v", s, k, tk, n, want)
			return
		}
		n++
	}
	if n != len(want) {
		t.Errorf("%.60q: %d, not %d", s, n, len(want))
	}
}

func wantBlank(t *testing.T, s string, at, want int) {
	t.Helper()
	if got := Blank(s, at); got != want {
		t.Errorf("%.60q at %d: %d, not %d", s, at, got, want)
	}
}

// P6.1: the examples of the chapter.
func TestExamples(t *testing.T) {
	wantScan(t, "f(X)->12.", atom("f", 0), word("(", 1), variable("X", 2), word(")", 3), word("->", 4), num(12, 6), stop(8))
	wantScan(t, "a=<b", atom("a", 0), word("=<", 1), atom("b", 3))
}

// P6.1, P6.2: each byte alone: a blank, a token, or a flaw.
func TestBytes(t *testing.T) {
	for i := range 256 {
		b := string([]byte{byte(i)})
		switch {
		case strings.Contains(" \t\n\r%", b):
			wantBlank(t, b, 0, 1)
			wantScan(t, b)
			continue
		case 'a' <= i && i <= 'z':
			wantToken(t, b, atom(b, 0))
		case 'A' <= i && i <= 'Z' || i == '_':
			wantToken(t, b, variable(b, 0))
		case '0' <= i && i <= '9':
			wantToken(t, b, num(i-'0', 0))
		case i == '.':
			wantToken(t, b, stop(0))
		case strings.Contains("<>=+-*()[]{},;|:/", b):
			wantToken(t, b, word(b, 0))
		default:
			wantFlaw(t, b, api.ErrScan, 0)
			wantFlaw(t, "a"+b, api.ErrScan, 1)
			wantFlaw(t, "1 "+b+" b", api.ErrScan, 2)
			wantFlaw(t, "=\n."+b, api.ErrScan, 3)
			wantFlaw(t, "X_"+b+"X", api.ErrScan, 2)
		}
		wantBlank(t, b, 0, 0)
		wantBlank(t, " "+b, 0, 1)
		wantScan(t, "%"+b)
	}
}

// P6.1: blanks of each sort, at each place.
func TestBlank(t *testing.T) {
	for _, c := range []struct {
		s        string
		at, want int
	}{
		{"", 0, 0}, {"", 1, 1}, {"", -1, -1}, {"", math.MaxInt, math.MaxInt}, {"", math.MinInt, math.MinInt},
		{"a", 0, 0}, {"a", 1, 1}, {"a", 2, 2}, {"a", -1, -1}, {" ", 2, 2}, {" ", -1, -1}, {"   ", math.MinInt, math.MinInt}, {"   ", math.MaxInt, math.MaxInt},
		{" ", 0, 1}, {"\t", 0, 1}, {"\n", 0, 1}, {"\r", 0, 1}, {" \t\n\r", 0, 4}, {" \t\n\r", 2, 4}, {" \t\n\r", 4, 4},
		{"\r\n \ta", 0, 4}, {"a \tb", 0, 0}, {"a \tb", 1, 3}, {"a \tb", 2, 3}, {"a \tb", 3, 3}, {"a \tb", 4, 4},
		{"%", 0, 1}, {"%%", 0, 2}, {"% a", 0, 3}, {"% a", 1, 2}, {"% a", 2, 2}, {"%a\n", 0, 3}, {"%a\nb", 0, 3}, {"%a\n%b\n c", 0, 7}, {"%a\r b\nc", 0, 6},
		{"a%b%c\nd", 1, 6}, {"a%b%c\nd", 2, 2}, {"a%b%c\nd", 3, 6}, {"%\n%\n%", 0, 5}, {"%\xff\x00é\nx", 0, 6},
		{"\v", 0, 0}, {"\f", 0, 0}, {"\x00", 0, 0}, {"\u0085", 0, 0}, {"\u00a0", 0, 0}, {" \u2028", 0, 1}, {"\x1f", 0, 0}, {"\x21", 0, 0},
	} {
		wantBlank(t, c.s, c.at, c.want)
	}
	long := strings.Repeat(" %.\n\t\r", 1<<16)
	wantBlank(t, long, 0, len(long))
	wantBlank(t, long+"a", 5, len(long))
}

// P6.2: texts without tokens.
func TestNoTokens(t *testing.T) {
	for _, s := range []string{"", " ", "\n", "\t\r\n ", "%", "% a", "%\n", "  % a\n\t", "%a\n%b", "%\x00\xff#", strings.Repeat(" ", api.MaxText), "%" + strings.Repeat("#", api.MaxText-1)} {
		wantScan(t, s)
		wantBlank(t, s, 0, len(s))
	}
}

// P6.1: a remark ends with its line, or with the text.
func TestRemarks(t *testing.T) {
	wantScan(t, "a%b\nc", atom("a", 0), atom("c", 4))
	wantScan(t, "a%b\rc", atom("a", 0))
	wantScan(t, "a%", atom("a", 0))
	wantScan(t, "a %.\n%#\n.%", atom("a", 0), stop(8))
	wantScan(t, "12%3\n4", num(12, 0), num(4, 5))
	wantScan(t, "=%\n<", word("=", 0), word("<", 3))
	wantScan(t, "when%\nwhen", word("when", 0), word("when", 6))
	wantFlaw(t, "%a\n#", api.ErrScan, 3)
}

// P6.1: names of all lengths, of each first byte, and of each byte behind it.
func TestNames(t *testing.T) {
	token := func(s string, at int) api.Token {
		if s[0] >= 'a' {
			return atom(s, at)
		}
		return variable(s, at)
	}
	for _, c := range []string{"a", "z", "A", "Z", "_"} {
		for _, r := range []string{"a", "Z", "_", "0", "9"} {
			for n := 1; n <= 32; n++ {
				s := c + strings.Repeat(r, n-1)
				wantToken(t, s, token(s, 0))
				wantScan(t, " "+s+".", token(s, 1), stop(n+1))
			}
			for _, n := range []int{33, 34, 64, 255, 256, 257, 300, 5000} {
				s := c + strings.Repeat(r, n-1)
				wantFlaw(t, s, api.ErrLimit, 0)
				wantFlaw(t, "b-"+s+" #", api.ErrLimit, 2)
			}
		}
	}
	s := "aZ_9bY_8"
	wantScan(t, s+"-"+s+" "+strings.ToUpper(s), atom(s, 0), word("-", 8), atom(s, 9), variable(strings.ToUpper(s), 18))
	wantScan(t, "_x X_9 __ _1 aB", variable("_x", 0), variable("X_9", 3), variable("__", 7), variable("_1", 10), atom("aB", 13))
	wantFlaw(t, "aé", api.ErrScan, 1)
	wantFlaw(t, "a@b", api.ErrScan, 1)
	wantFlaw(t, "'a'", api.ErrScan, 0)
}

// P6.2: each word, what begins with one, and what is nearly one.
func TestWords(t *testing.T) {
	for w := range strings.FieldsSeq(allWords) {
		if !Word(w) || !Word(strings.Clone(w)) {
			t.Errorf("%q is a word", w)
		}
		wantToken(t, w, word(w, 0))
		wantScan(t, w+" "+w+"."+w, word(w, 0), word(w, len(w)+1), stop(2*len(w)+1), word(w, 2*len(w)+2))
		for _, s := range []string{w + "a", w + "_", w + "0", w + "Z", "a" + w, w + w, w[:len(w)-1]} {
			wantNoWord(t, s)
			wantToken(t, s, atom(s, 0))
		}
		for _, s := range []string{strings.ToUpper(w), strings.ToUpper(w[:1]) + w[1:], "_" + w} {
			wantNoWord(t, s)
			wantToken(t, s, variable(s, 0))
		}
		for _, s := range []string{w + " ", " " + w, w + "\x00", w + "."} {
			wantNoWord(t, s)
		}
	}
	for _, s := range []string{"", " ", "send", "if", "begin", "andalso", "orelse", "not", "and", "or", "xor", "div rem", "ends", "modul", "Fun", "a", "X", "1", ".", "->", "\xff"} {
		wantNoWord(t, s)
	}
	for m := range strings.FieldsSeq(allMarks) {
		wantNoWord(t, m)
	}
}

func wantNoWord(t *testing.T, s string) {
	t.Helper()
	if Word(s) {
		t.Errorf("%q is no word", s)
	}
}

// P6.1: integers up to 2^59, noughts ahead or not.
func TestIntegers(t *testing.T) {
	for s, n := range map[string]int{
		"0": 0, "1": 1, "9": 9, "10": 10, "12": 12, "007": 7, "00": 0,
		"576460752303423486": api.MaxInt - 1, "576460752303423487": api.MaxInt, "576460752303423488": 1 << 59, "000576460752303423488": 1 << 59,
		strings.Repeat("0", 5000): 0, strings.Repeat("0", 5000) + "12": 12, strings.Repeat("0", 5000) + "576460752303423488": 1 << 59,
	} {
		wantToken(t, s, num(n, 0))
		wantScan(t, "-"+s+"a", word("-", 0), num(n, 1), atom("a", len(s)+1))
	}
	for _, s := range []string{
		"576460752303423489", "576460752303423490", "576460752303423498", "5764607523034234880", "600000000000000000", "1000000000000000000", "999999999999999999",
		"9223372036854775807", "9223372036854775808", "18446744073709551615", "18446744073709551616", "18446744073709551617", "36893488147419103233", "99999999999999999999999999",
		"000576460752303423489", strings.Repeat("9", 8000), "1" + strings.Repeat("0", 64), "1" + strings.Repeat("0", 8000),
	} {
		wantFlaw(t, s, api.ErrLimit, 0)
		wantFlaw(t, "X %1\n "+s+"#", api.ErrLimit, 6)
	}
	wantScan(t, "1a", num(1, 0), atom("a", 1))
	wantScan(t, "1A2 3_", num(1, 0), variable("A2", 1), num(3, 4), variable("_", 5))
	wantScan(t, "a-1", atom("a", 0), word("-", 1), num(1, 2))
	wantScan(t, "12 34", num(12, 0), num(34, 3))
	wantScan(t, "1.5", num(1, 0), stop(1), num(5, 2))
	wantFlaw(t, "16#ff", api.ErrScan, 2)
	wantFlaw(t, "\u0661", api.ErrScan, 0)
}

// P6.1: each mark alone, and each one behind each other one: the longest is taken.
func TestMarks(t *testing.T) {
	for m := range strings.FieldsSeq(allMarks) {
		wantToken(t, m, word(m, 0))
		wantScan(t, "a"+m+"1", atom("a", 0), word(m, 1), num(1, 1+len(m)))
		for r := range strings.FieldsSeq(allMarks) {
			wantScan(t, m+" "+r, word(m, 0), word(r, len(m)+1))
			wantModel(t, m+r)
		}
	}
	for s, want := range map[string]string{
		"====": "= = = =", "=:==": "=:= =", "=:": "= :", "=/": "= /", "=:/=": "= : / =", "=/=:=": "=/= : =", "=:=/=": "=:= / =",
		"=<=": "=< =", "<=": "< =", "==<": "= =<", "=<<": "=< <", "=>": "= >", "=>=": "= >=", ">=<": ">= <", ">==": ">= =", ">>=": "> >=",
		"->-": "-> -", "-->": "- ->", "->>=": "-> >=", "-=": "- =", "- >": "- >", "= <": "= <", "= :=": "= : =", "=: =": "= : =",
		"::": ": :", "//": "/ /", "||": "| |", "[]": "[ ]", "({[": "( { [", "**": "* *", "+-*/": "+ - * /", "=%\n:=": "= : =",
	} {
		l, f := Scan(s)
		var got []string
		for _, tk := range l {
			if tk.K != api.TkWord || tk.N != 0 {
				t.Errorf("%q: %v", s, tk)
			}
			got = append(got, tk.S)
		}
		if strings.Join(got, " ") != want || f != (api.Flaw{}) {
			t.Errorf("%q: %v %v, not %v", s, got, f, want)
		}
	}
	for _, s := range []string{"!", "==!", "?", "@", "&", "~", "^", "`", "\\", "$", "'", "\"", "#", "é"} {
		wantFlaw(t, s, api.ErrScan, strings.IndexAny(s, "!?@&~^`\\$'\"#é"))
	}
}

// P6.1: a full stop is a token wherever it stands.
func TestStops(t *testing.T) {
	wantScan(t, ".", stop(0))
	wantScan(t, "..", stop(0), stop(1))
	wantScan(t, "a.b", atom("a", 0), stop(1), atom("b", 2))
	wantScan(t, "a.", atom("a", 0), stop(1))
	wantScan(t, " .\n", stop(1))
	wantScan(t, "1.2.", num(1, 0), stop(1), num(2, 2), stop(3))
	wantScan(t, "X.->.", variable("X", 0), stop(1), word("->", 2), stop(4))
}

// P6.1: Next at each place of a text, and outside it.
func TestPlaces(t *testing.T) {
	const s = " ab =< % x\n."
	end := api.Flaw{E: api.ErrScan, At: len(s)}
	for at, c := range []struct {
		tk  api.Token
		end int
	}{
		{atom("ab", 1), 3}, {atom("ab", 1), 3}, {atom("b", 2), 3}, {word("=<", 4), 6}, {word("=<", 4), 6}, {word("<", 5), 6}, {stop(11), 12},
		{stop(11), 12}, {atom("x", 9), 10}, {atom("x", 9), 10}, {stop(11), 12}, {stop(11), 12},
	} {
		wantNext(t, s, at, c.tk, c.end, api.Flaw{})
	}
	wantNext(t, s, len(s), api.Token{}, len(s), end)
	for _, at := range []int{-1, -2, -12, math.MinInt, math.MinInt + 1, len(s) + 1, len(s) + 2, 1 << 40, math.MaxInt} {
		for _, s := range []string{s, "", " ", "%", "a"} {
			wantNext(t, s, at, api.Token{}, at, api.Flaw{E: api.ErrScan, At: at})
			wantBlank(t, s, at, at)
		}
	}
	for _, s := range []string{"", "  ", "%a", "% \n\t"} {
		for at := range len(s) + 1 {
			if at != 1 || s != "%a" {
				wantNext(t, s, at, api.Token{}, len(s), api.Flaw{E: api.ErrScan, At: len(s)})
			}
		}
	}
	wantNext(t, "whenever", 4, atom("ever", 4), 8, api.Flaw{})
	wantNext(t, "awhen", 1, word("when", 1), 5, api.Flaw{})
	wantNext(t, "x12", 1, num(12, 1), 3, api.Flaw{})
	wantNext(t, "aX", 1, variable("X", 1), 2, api.Flaw{})
	wantNext(t, strings.Repeat("a", 33), 1, atom(strings.Repeat("a", 32), 1), 33, api.Flaw{})
	wantNext(t, "9576460752303423488", 1, num(1<<59, 1), 19, api.Flaw{})
	wantNext(t, " \n#", 0, api.Token{}, 2, api.Flaw{E: api.ErrScan, At: 2})
	wantNext(t, "a %x\n"+strings.Repeat("b", 33), 1, api.Token{}, 5, api.Flaw{E: api.ErrLimit, At: 5})
	wantNext(t, "\xc3\xa9", 1, api.Token{}, 1, api.Flaw{E: api.ErrScan, At: 1})
}

// P6.2: a text of MaxText bytes, and of one more; a flaw of it is told behind its length.
func TestLongTexts(t *testing.T) {
	for _, s := range []string{strings.Repeat(".", api.MaxText), strings.Repeat(" ", api.MaxText-1) + ".", strings.Repeat("a ", api.MaxText/2)} {
		if l, f := Scan(s); len(l) != len(strings.TrimRight(strings.ReplaceAll(s, " ", ""), " ")) || f != (api.Flaw{}) {
			t.Errorf("%.20q: %d %v", s, len(l), f)
		}
		for _, more := range []string{" ", ".", "#", "%", "\x00"} {
			wantLong(t, s+more)
			wantLong(t, more+s)
		}
	}
	for _, s := range []string{strings.Repeat("a", api.MaxText+1), strings.Repeat("9", api.MaxText+1), strings.Repeat("#", api.MaxText+1), strings.Repeat("a.", api.MaxText), "a" + strings.Repeat(" ", 1<<20)} {
		wantLong(t, s)
	}
	wantFlaw(t, strings.Repeat("#", api.MaxText), api.ErrScan, 0)
	wantFlaw(t, strings.Repeat(" ", api.MaxText-1)+"#", api.ErrScan, api.MaxText-1)
	wantFlaw(t, strings.Repeat("a", api.MaxText), api.ErrLimit, 0)
}

func wantLong(t *testing.T, s string) {
	t.Helper()
	if l, f := Scan(s); l != nil || f != (api.Flaw{E: api.ErrLong}) {
		t.Errorf("%.20q: %d %v", s, len(l), f)
	}
	wantEach(t, s)
}

// P6.1: Next and Blank know no longest text.
func TestNextOfLongText(t *testing.T) {
	s := strings.Repeat("% \n", 1<<19) + "ab." + strings.Repeat(" ", 1<<19)
	n := 3 << 19
	wantNext(t, s, 0, atom("ab", n), n+2, api.Flaw{})
	wantNext(t, s, n+2, stop(n+2), n+3, api.Flaw{})
	wantNext(t, s, n+3, api.Token{}, len(s), api.Flaw{E: api.ErrScan, At: len(s)})
	wantBlank(t, s, n+3, len(s))
	wantNext(t, strings.Repeat("0", 1<<20)+"7", 0, num(7, 0), 1<<20+1, api.Flaw{})
}

// P6.2: the first flaw is told, wherever it stands; tokens go ahead of it in Each alone.
func TestFlaws(t *testing.T) {
	long := strings.Repeat("b", 33)
	for _, c := range []struct {
		s      string
		e      api.Errno
		at     int
		before []api.Token
	}{
		{"#", api.ErrScan, 0, nil},
		{"# a b", api.ErrScan, 0, nil},
		{"  #", api.ErrScan, 2, nil},
		{"a #", api.ErrScan, 2, []api.Token{atom("a", 0)}},
		{"a#b", api.ErrScan, 1, []api.Token{atom("a", 0)}},
		{"a. #" + long, api.ErrScan, 3, []api.Token{atom("a", 0), stop(1)}},
		{"a. " + long + "#", api.ErrLimit, 3, []api.Token{atom("a", 0), stop(1)}},
		{"1 99999999999999999999999999 !", api.ErrLimit, 2, []api.Token{num(1, 0)}},
		{"=:=\x00", api.ErrScan, 3, []api.Token{word("=:=", 0)}},
		{"X\n\xffa", api.ErrScan, 2, []api.Token{variable("X", 0)}},
		{"\"a\"", api.ErrScan, 0, nil},
		{"a % #\n #", api.ErrScan, 7, []api.Token{atom("a", 0)}},
		{"a \u00a0", api.ErrScan, 2, []api.Token{atom("a", 0)}},
	} {
		wantFlaw(t, c.s, c.e, c.at)
		wantEach(t, c.s, c.before...)
	}
}

// P6.2, R4: an iteration that is left early, and one that is begun again, within another, too.
func TestEachAgain(t *testing.T) {
	const s = "a B 3 # c"
	want := []api.Token{atom("a", 0), variable("B", 2), num(3, 4)}
	each := Each(s)
	for most := range 4 {
		n := 0
		for k, tk := range each {
			if n == most {
				break
			}
			if k != n || tk != want[k] {
				t.Error(most, k, tk)
			}
			n++
		}
		if n != most {
			t.Error(n, most)
		}
	}
	n := 0
	for k := range each {
		for j, tk := range each {
			if tk != want[j] {
				t.Error(k, j, tk)
			}
			n++
		}
	}
	if n != 9 {
		t.Error(n)
	}
	calls := 0
	each(func(int, api.Token) bool { calls++; return false })
	if calls != 1 {
		t.Errorf("%d calls behind the first no", calls)
	}
	for _, s := range []string{"", "#", strings.Repeat(" ", api.MaxText+1)} {
		if Each(s) == nil {
			t.Error("no iterator")
		}
	}
	wantEach(t, s, want...)
}

// R3: one iterator, and one text, used by many at once.
func TestAtOnce(t *testing.T) {
	s := strings.Repeat("f(X)->12, % a\n", 100)
	want, _ := Scan(s)
	each := Each(s)
	var g sync.WaitGroup
	for range 8 {
		g.Go(func() {
			for k, tk := range each {
				if tk != want[k] {
					t.Error(k, tk)
				}
			}
			if l, _ := Scan(s); !slices.Equal(l, want) {
				t.Error("other tokens")
			}
		})
	}
	g.Wait()
}

// R4: an answer is new memory.
func TestScanAnswersAnew(t *testing.T) {
	const s = "a when ->"
	l, _ := Scan(s)
	clear(l[:cap(l)])
	wantScan(t, s, atom("a", 0), word("when", 2), word("->", 7))
}

// piece is one of a random text: what Scan tells of it, if it stands alone.
type piece struct {
	s  string
	tk api.Token
}

func pieces() []piece {
	l := []piece{{".", stop(0)}}
	for w := range strings.FieldsSeq(allWords + " " + allMarks) {
		l = append(l, piece{w, word(w, 0)})
	}
	for _, s := range []string{"a", "b_1", "whenX", "zZ9", strings.Repeat("q", 32)} {
		l = append(l, piece{s, atom(s, 0)})
	}
	for _, s := range []string{"X", "_", "_a1", "When", strings.Repeat("Q", 32)} {
		l = append(l, piece{s, variable(s, 0)})
	}
	for _, n := range []int{0, 7, 12, 1 << 59} {
		l = append(l, piece{strconv.Itoa(n), num(n, 0)}, piece{"00" + strconv.Itoa(n), num(n, 0)})
	}
	return l
}

func blanks() []string {
	return []string{" ", "\t", "\n", "\r", "\r\n", "  ", "%\n", "% a #\n", " %.% \n\t", "\n\n%\r\n"}
}

// P6.3: blanks between tokens change no token but its At.
func TestBlanksBetween(t *testing.T) {
	r := rand.New(rand.NewSource(1))
	ps, bs := pieces(), blanks()
	gap := func(least int) string {
		var b strings.Builder
		for range least + r.Intn(3) {
			b.WriteString(bs[r.Intn(len(bs))])
		}
		return b.String()
	}
	for range 3000 {
		var b strings.Builder
		var want []api.Token
		b.WriteString(gap(0))
		for range r.Intn(12) {
			p := ps[r.Intn(len(ps))]
			p.tk.At = b.Len()
			want = append(want, p.tk)
			b.WriteString(p.s)
			b.WriteString(gap(1))
		}
		s := b.String()
		if r.Intn(2) == 0 {
			s = strings.TrimRight(s, "\n") // a remark may be left without its line's end
		}
		wantScan(t, s, want...)
	}
}

// P6.3: blanks laid into a text, between two of its tokens, or at its ends, move those behind them alone.
func TestBlanksLaidIn(t *testing.T) {
	const s = "f(X)when X=<1->fun m:g/2;\n%a\n_ = =:=whens 00.b"
	l, _ := Scan(s)
	if len(l) != 23 {
		t.Fatal(len(l), l)
	}
	places := []int{0, len(s)}
	for _, tk := range l {
		_, end, _ := Next(s, tk.At)
		places = append(places, tk.At, end)
	}
	for _, at := range places {
		for _, b := range blanks() {
			want := slices.Clone(l)
			for i := range want {
				if want[i].At >= at {
					want[i].At += len(b)
				}
			}
			wantScan(t, s[:at]+b+s[at:], want...)
		}
	}
}

// P6.1 to P6.3: texts of random pieces and bytes, held against a plain reading of the chapter.
func TestRandomTexts(t *testing.T) {
	r := rand.New(rand.NewSource(2))
	ps, bs := pieces(), blanks()
	others := []string{"#", "\x00", "\xff", "é", "!", strings.Repeat("q", 33), "576460752303423489", "99999999999999999999", "=", ":", "/", "<", ">", "-", "9", "a", "A", "%"}
	for range 6000 {
		var b strings.Builder
		for range r.Intn(9) {
			switch r.Intn(8) {
			case 0, 1, 2, 3:
				b.WriteString(ps[r.Intn(len(ps))].s)
			case 4, 5:
				b.WriteString(bs[r.Intn(len(bs))])
			case 6:
				b.WriteString(others[r.Intn(len(others))])
			default:
				b.WriteByte(byte(r.Intn(256)))
			}
		}
		wantModel(t, b.String())
	}
}

// P6.1 to P6.3: all short texts of bytes that have to do with each other.
func TestShortTexts(t *testing.T) {
	const bytes = "aX1=:/<>-.% \n#"
	texts := []string{""}
	for range 4 {
		var longer []string
		for _, s := range texts {
			for i := range len(bytes) {
				longer = append(longer, s+bytes[i:i+1])
			}
		}
		for _, s := range longer {
			wantModel(t, s)
		}
		texts = longer
	}
}

var (
	modelBlanks = regexp.MustCompile(`^(?:[ \t\n\r]|%[^\n]*(?:\n|$))*`)
	modelName   = regexp.MustCompile(`^[A-Za-z_][A-Za-z0-9_]*`)
	modelDigits = regexp.MustCompile(`^[0-9]+`)
)

func modelBlank(s string, at int) int {
	if at < 0 || at > len(s) {
		return at
	}
	return at + len(modelBlanks.FindString(s[at:]))
}

func modelNext(s string, at int) (api.Token, int, api.Flaw) {
	at = modelBlank(s, at)
	none := func(e api.Errno) (api.Token, int, api.Flaw) { return api.Token{}, at, api.Flaw{E: e, At: at} }
	if at < 0 || at >= len(s) {
		return none(api.ErrScan)
	}
	if n := modelName.FindString(s[at:]); n != "" {
		switch {
		case slices.Contains(strings.Fields(allWords), n):
			return word(n, at), at + len(n), api.Flaw{}
		case len(n) > 32:
			return none(api.ErrLimit)
		case n[0] >= 'a':
			return atom(n, at), at + len(n), api.Flaw{}
		}
		return variable(n, at), at + len(n), api.Flaw{}
	}
	if d := modelDigits.FindString(s[at:]); d != "" {
		n, _ := new(big.Int).SetString(d, 10)
		if n.Cmp(big.NewInt(1<<59)) > 0 {
			return none(api.ErrLimit)
		}
		return num(int(n.Int64()), at), at + len(d), api.Flaw{}
	}
	if s[at] == '.' {
		return stop(at), at + 1, api.Flaw{}
	}
	for size := 3; size > 0; size-- {
		if at+size <= len(s) && slices.Contains(strings.Fields(allMarks), s[at:at+size]) {
			return word(s[at:at+size], at), at + size, api.Flaw{}
		}
	}
	return none(api.ErrScan)
}

// wantModel holds all calls on s against the model, and P6.3.
func wantModel(t *testing.T, s string) {
	t.Helper()
	for at := -2; at <= len(s)+2; at++ {
		wantBlank(t, s, at, modelBlank(s, at))
		tk, end, f := modelNext(s, at)
		wantNext(t, s, at, tk, end, f)
	}
	var want []api.Token
	at := 0
	for {
		tk, end, f := modelNext(s, at)
		if f.E != api.OK && f.At < len(s) {
			wantFlaw(t, s, f.E, f.At)
			wantEach(t, s, want...)
			return
		}
		if f.E != api.OK {
			break
		}
		if between := Blank(s, at); between != tk.At || end <= at {
			t.Errorf("%q: %v ends at %d behind %d; blanks end at %d", s, tk, end, at, between)
		}
		want = append(want, tk)
		at = end
	}
	wantScan(t, s, want...)
}
