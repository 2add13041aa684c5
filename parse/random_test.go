package parse

import (
	"math/rand"
	"slices"
	"strings"
	"testing"

	"pleach/api"
	"pleach/ast"
	"pleach/scan"
)

// texts are modules in which each way of each rule of the grammar is gone.
var texts = []string{
	"module a . module b . f ( ) -> 1 . f ( X , _ , [ ] ) -> X .",
	"module a . f ( 0 ) -> 1 ; f ( { [ a | -3 ] , { } } ) when is_atom ( X ) , ( ( Y * 2 ) =< { Z } ) -> X , Y ; f ( _ ) -> 2 . g ( ) -> 3 .",
	"module a . f ( ) -> ( X = { a , [ Y | 5 ] } ) , ( ( 1 div - 2 ) =:= ( f ( ) rem X ( ) ) ) .",
	"module a . f ( ) -> g ( 1 , m : h ( X ) ) , fun m : g / 2 , X ( Y , Z ) , m : g ( ) .",
	"module a . f ( X ) -> case X of 1 -> a ; Y when is_list ( [ ] ) -> b , c end .",
	"module a . f ( ) -> try g ( ) catch error : X -> X ; C : { } when ( 1 < - 2 ) -> C ; throw : _ -> 1 end .",
	"module a . f ( ) -> receive X -> 1 ; { Y } when is_pid ( Y ) -> 2 after 5 -> a , b end , receive after 0 -> c end , receive a -> d end .",
	"module a . f ( A , B , C , D , E , F , G , H ) -> f ( 1 , 2 , 3 , 4 , 5 , 6 , 7 , 8 ) ; f ( 1 , 2 , 3 , 4 , 5 , 6 , 7 , 8 ) -> X ( 1 , 2 , 3 , 4 , 5 , 6 , 7 , 8 ) .",
}

// alphabet are tokens of each kind, and such as are looked at somewhere.
func alphabet() []string {
	return append(strings.Fields("a f m X _ 0 9 576460752303423487 576460752303423488 is_atom is_function foo error exit throw . # 576460752303423489"),
		strings.Fields("module when case of end try catch receive after fun div rem config -> =:= =/= =< >= < > = + - * ( ) [ ] { } , ; | : /")...)
}

// wantModel holds all calls against the model.
func wantModel(t *testing.T, m *model, s string) {
	t.Helper()
	wantRule(t, m, s, "Expr", Expr)
	wantRule(t, m, s, "Pat", Pattern)
	wantModules(t, m, s)
}

func wantRule(t *testing.T, m *model, s, rule string, read func(s string) (api.Node, api.Flaw)) {
	t.Helper()
	fault, _ := m.run(s, rule, false)
	n, f := read(s)
	if f != fault || f.E != api.OK && !empty(n) {
		t.Errorf("%s of %q: %v %v, not %v", rule, s, f, n, fault)
	}
	if f.E == api.OK {
		wantWritten(t, rule, s, n)
	}
}

// wantModules holds the calls for modules against the model.
func wantModules(t *testing.T, m *model, s string) {
	t.Helper()
	wantRule(t, m, s, "Mods", Mods)
	fault, config := m.run(s, "Mods", true)
	n, at, f := Text(s)
	if f != fault || at != config || f.E != api.OK && !empty(n) {
		t.Errorf("Text of %q: %v %d %v, not %v %d", s, f, at, n, fault, config)
	}
	if f.E == api.OK && at >= 0 {
		wantWritten(t, "Mods", s[:at-len("config")], n)
	}
}

// wantWritten holds that a tree may be, and that its text has the tokens of the one that it was read from.
func wantWritten(t *testing.T, rule, s string, n api.Node) {
	t.Helper()
	ahead, behind := map[string]string{"Expr": "module m.f()->", "Pat": "module m.f("}[rule], map[string]string{"Expr": "\n.", "Pat": "\n)->1."}[rule]
	switch rule {
	case "Expr":
		n = mods(mod("m", one(n)))
	case "Pat":
		n = mods(mod("m", fn("f", 1, clause(1, n, grd(), num(1)))))
	}
	a, b := tokensIn(ahead+s+behind), tokensIn(ast.Text(n))
	if ast.Check(n) != api.OK || !slices.Equal(a, b) {
		t.Errorf("%q, as %s, is written %q", s, rule, ast.Text(n))
	}
}

// tokensIn are those of a text, without places; a 0 that has a - of its own ahead is written without it.
func tokensIn(s string) []api.Token {
	var l []api.Token
	for _, k := range scan.Each(s) {
		k.At = 0
		if m := len(l) - 1; k.K == api.TkInt && k.N == 0 && m > 0 && l[m].S == "-" && !ends(l[m-1]) {
			l = l[:m]
		}
		l = append(l, k)
	}
	return l
}

// ends tells whether an expression may end with that token.
func ends(k api.Token) bool {
	return k.K == api.TkAtom || k.K == api.TkVar || k.K == api.TkInt || slices.Contains([]string{"]", ")", "}", "end"}, k.S)
}

// P8.1, P8.2: texts of all rules, cut off behind each token, and with one token more, less or another: the first fault is where the chapter's own grammar says.
func TestOneToken(t *testing.T) {
	m := newModel()
	for _, text := range texts {
		l := strings.Fields(text)
		if _, f := Mods(text); f.E != api.OK {
			t.Errorf("%q: %v", text, f)
		}
		wantModel(t, m, text)
		for i := range l {
			wantModules(t, m, strings.Join(l[:i], " "))
			wantModules(t, m, strings.Join(slices.Delete(slices.Clone(l), i, i+1), " "))
			for _, w := range alphabet() {
				more := slices.Insert(slices.Clone(l), i, w)
				wantModules(t, m, strings.Join(more, " "))
				wantModules(t, m, strings.Join(slices.Delete(more, i+1, i+2), " "))
			}
		}
	}
}

// P8.1, P8.2: all short texts of tokens.
func TestShort(t *testing.T) {
	m := newModel()
	l := alphabet()
	for _, a := range l {
		wantModel(t, m, a)
		for _, b := range l {
			wantModel(t, m, a+" "+b)
		}
	}
	few := strings.Fields("a X 1 - ( ) [ ] | { } , = + : config")
	for _, a := range few {
		for _, b := range few {
			for _, c := range few {
				wantModel(t, m, a+" "+b+" "+c)
			}
		}
	}
}

// writer makes random texts by the grammar.
type writer struct {
	*rand.Rand
	rules map[string]*piece
	l     []string
}

func (w *writer) put(p *piece, rule string, deep int) {
	switch p.kind {
	case 'r':
		w.put(w.rules[p.word], p.word, deep-1)
	case 'w':
		w.l = append(w.l, w.word(p.word, rule))
	case '[':
		if w.Intn(3) > 0 {
			w.put(p.l[0], rule, deep)
		}
	case '{':
		for range w.Intn(3) {
			w.put(p.l[0], rule, deep)
		}
	case '|':
		i := w.Intn(len(p.l))
		if deep <= 0 && (rule == "Expr" || rule == "Pat" || rule == "GExpr") && len(p.l) > 3 {
			i = 1 + 2*w.Intn(2)
		}
		w.put(p.l[i], rule, deep)
	default:
		for _, q := range p.l {
			w.put(q, rule, deep)
		}
	}
}

// word is a token that may stand for that one, mostly without a fault.
func (w *writer) word(word, rule string) string {
	pick := func(l ...string) string { return l[w.Intn(len(l))] }
	switch rule + " " + word {
	case "Test NAME":
		return pick("is_atom", "is_integer", "is_tuple", "is_list")
	case "Catch NAME":
		return pick("error", "exit", "throw")
	case "Clause NAME":
		return "f"
	case "Expr INT":
		return pick("0", "1", "8")
	}
	switch word {
	case "NAME":
		return pick("a", "b", "go_1", "error", "is_atom")
	case "VAR":
		return pick("X", "Y", "_", "Zx_1")
	case "INT":
		return pick("0", "7", "0012", "576460752303423487")
	}
	return word
}

// P8.1 to P8.3: texts made at random by the grammar, and those with a few tokens changed; those that are read come to the same tree, written and read again.
func TestRandom(t *testing.T) {
	m := newModel()
	r := rand.New(rand.NewSource(8))
	words := alphabet()
	read := 0
	for range 3000 {
		w := &writer{Rand: r, rules: m.rules}
		rule := []string{"Mods", "Expr", "Pat", "Expr"}[r.Intn(4)]
		w.put(m.rules[rule], rule, 1+r.Intn(7))
		if len(w.l) > 600 {
			continue
		}
		wantModel(t, m, strings.Join(w.l, " "))
		if n, f := Mods(strings.Join(w.l, " ")); f.E == api.OK {
			read++
			wantMods(t, ast.Text(n), n)
		}
		for range r.Intn(3) {
			at := r.Intn(len(w.l) + 1)
			w.l = slices.Insert(w.l, at, words[r.Intn(len(words))])
			if r.Intn(2) == 0 && at+1 < len(w.l) {
				w.l = slices.Delete(w.l, at+1, at+2)
			}
			wantModel(t, m, strings.Join(w.l, " "))
		}
	}
	if read < 200 {
		t.Error("too few texts of modules:", read)
	}
}

// P8.1: blanks between tokens change no tree, and of a fault its place alone.
func TestBlanks(t *testing.T) {
	r := rand.New(rand.NewSource(88))
	blanks := []string{" ", "\n", "\t", "\r", "% a. ( end\n", "  ", "%\n%\n"}
	for _, text := range texts {
		n, _ := Mods(text)
		for range 40 {
			s := ""
			for _, w := range strings.Fields(text) {
				for range 1 + r.Intn(3) {
					s += blanks[r.Intn(len(blanks))]
				}
				s += w
			}
			wantMods(t, s, n)
			wantRefused(t, Mods, s+" ]", api.ErrParse, len(s)+1)
		}
	}
}

// P8.1, P8.2: any bytes come to a tree or to a fault within the text.
func TestBytes(t *testing.T) {
	r := rand.New(rand.NewSource(888))
	m := newModel()
	bytes := "aZ_09 \n%(){}[]|,;:.=<>+-*/#\x00\xff"
	for range 20000 {
		b := make([]byte, r.Intn(12))
		for i := range b {
			b[i] = bytes[r.Intn(len(bytes))]
		}
		wantModel(t, m, string(b))
	}
}
