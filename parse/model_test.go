package parse

import (
	"strings"

	"pleach/api"
	"pleach/scan"
)

// grammar is the chapter's, to the letter.
const grammar = `
Mods    = { Module }
Module  = 'module' NAME . { Func }
Func    = Clause { ';' Clause } .
Clause  = NAME '(' [ Pat { ',' Pat } ] ')' [ 'when' Test { ',' Test } ] '->' Body
Body    = Expr { ',' Expr }
Pat     = VAR | Int | NAME | '[' ']' | '[' Pat '|' Pat ']' | '{' [ Pat { ',' Pat } ] '}'
Int     = INT | '-' INT
Test    = NAME '(' GExpr ')' | '(' GExpr Compare GExpr ')'
GExpr   = VAR | Int | NAME | '[' ']' | '[' GExpr '|' GExpr ']' | '{' [ GExpr { ',' GExpr } ] '}' | '(' GExpr Plus GExpr ')'
Expr    = VAR [ Args ] | Int | NAME [ Args | ':' NAME Args ] | '[' ']' | '[' Expr '|' Expr ']' | '{' [ Expr { ',' Expr } ] '}'
        | '(' Expr ( Op Expr | '=' Expr ) ')' | 'fun' NAME ':' NAME '/' INT
        | 'case' Expr 'of' Alt { ';' Alt } 'end' | 'try' Expr 'catch' Catch { ';' Catch } 'end'
        | 'receive' [ Alt { ';' Alt } ] [ 'after' Expr '->' Body ] 'end'
Args    = '(' [ Expr { ',' Expr } ] ')'
Alt     = Pat [ 'when' Test { ',' Test } ] '->' Body
Catch   = ( NAME | VAR ) ':' Pat [ 'when' Test { ',' Test } ] '->' Body
Compare = '=:=' | '=/=' | '<' | '=<' | '>' | '>='
Plus    = '+' | '-' | '*'
Op      = Compare | Plus | 'div' | 'rem'
`

// piece is one of a rule of the grammar: of kind 'w' a word that tokens are, of 'r' a rule's name, of 's' pieces one behind the other, of '|' ways, of '[' one that may be left out, of '{' one again and again.
type piece struct {
	kind byte
	word string
	l    []*piece
}

// rulesOf reads the grammar.
func rulesOf(text string) map[string]*piece {
	rules := map[string]*piece{}
	words := strings.Fields(text)
	for i := 0; i < len(words); {
		end := i + 2
		for end < len(words) && (end+1 == len(words) || words[end+1] != "=") {
			end++
		}
		l := words[i+2 : end]
		rules[words[i]] = waysOf(&l)
		i = end
	}
	return rules
}

// waysOf reads ways up to the bracket that closes them.
func waysOf(words *[]string) *piece {
	ways := &piece{kind: '|'}
	way := &piece{kind: 's'}
	for len(*words) > 0 {
		w := (*words)[0]
		if w == "]" || w == "}" || w == ")" {
			break
		}
		*words = (*words)[1:]
		switch {
		case w == "|":
			ways.l = append(ways.l, way)
			way = &piece{kind: 's'}
		case w == "[" || w == "{" || w == "(":
			p := waysOf(words)
			*words = (*words)[1:]
			if w != "(" {
				p = &piece{kind: w[0], l: []*piece{p}}
			}
			way.l = append(way.l, p)
		case w == "." || w == "NAME" || w == "VAR" || w == "INT":
			way.l = append(way.l, &piece{kind: 'w', word: w})
		case w[0] == '\'':
			way.l = append(way.l, &piece{kind: 'w', word: strings.Trim(w, "'")})
		default:
			way.l = append(way.l, &piece{kind: 'r', word: w})
		}
	}
	ways.l = append(ways.l, way)
	return ways
}

// model goes over the tokens of a text as the grammar says, and comes to the first fault; sizes of the whole tree it leaves aside.
type model struct {
	rules map[string]*piece
	first map[*piece]map[string]bool
	size  int
	toks  []api.Token
	flaw  api.Flaw
	at    int
	nests int
	fault api.Flaw
}

// visit is a rule that is gone over: where it began, how many commas it had ahead of its ')', and what it knows of the clauses of its function.
type visit struct {
	rule   string
	begin  int
	commas int
	closed bool
	up     *visit
	name   string
	many   int
	some   bool
}

func newModel() *model {
	m := &model{rules: rulesOf(grammar), first: map[*piece]map[string]bool{}}
	for _, p := range m.rules {
		m.begins(p)
	}
	return m
}

// begins are the words with which a piece begins; "" is among them where it may be nothing.
func (m *model) begins(p *piece) map[string]bool {
	if f, ok := m.first[p]; ok {
		return f
	}
	f := map[string]bool{}
	switch p.kind {
	case 'w':
		f[p.word] = true
	case 'r':
		f = m.begins(m.rules[p.word])
	case '|':
		for _, q := range p.l {
			for w := range m.begins(q) {
				f[w] = true
			}
		}
	case '[', '{':
		for w := range m.begins(p.l[0]) {
			f[w] = true
		}
		f[""] = true
	case 's':
		f[""] = true
		for _, q := range p.l {
			if !f[""] {
				break
			}
			delete(f, "")
			for w := range m.begins(q) {
				f[w] = true
			}
		}
	}
	m.first[p] = f
	return f
}

func wordOf(t api.Token) string {
	return [...]string{api.TkAtom: "NAME", api.TkVar: "VAR", api.TkInt: "INT", api.TkEnd: ".", api.TkWord: t.S}[t.K]
}

func (m *model) word() string {
	if m.at == len(m.toks) {
		return ""
	}
	return wordOf(m.toks[m.at])
}

// stop ends it with a fault at a token, and is false. A flaw of the scan stands for a fault of the grammar alone.
func (m *model) stop(e api.Errno, at int) bool {
	switch {
	case at < len(m.toks):
		m.fault = api.Flaw{E: e, At: m.toks[at].At}
	case m.flaw.E != api.OK && e == api.ErrParse:
		m.fault = m.flaw
	default:
		m.fault = api.Flaw{E: e, At: m.size}
	}
	return false
}

// run goes over a text by that rule, and tells the first fault, and where it ended.
func (m *model) run(s, rule string, config bool) (api.Flaw, int) {
	m.size, m.toks, m.at, m.nests, m.fault = len(s), nil, 0, 0, api.Flaw{}
	_, m.flaw = scan.Scan(s)
	for _, t := range scan.Each(s) {
		m.toks = append(m.toks, t)
	}
	if !m.rule(rule, nil) {
		return m.fault, -1
	}
	if config && m.word() == "config" {
		return api.Flaw{}, m.toks[m.at].At + 6
	}
	if m.at < len(m.toks) || m.flaw.E != api.OK {
		m.stop(api.ErrParse, m.at)
	}
	return m.fault, -1
}

func (m *model) rule(name string, up *visit) bool {
	v := &visit{rule: name, begin: m.at, up: up}
	nest := name == "Pat" || name == "GExpr" || name == "Expr"
	if nest {
		if m.nests++; m.nests > 128 {
			return m.stop(api.ErrLimit, m.at)
		}
	}
	ok := m.piece(m.rules[name], v)
	if nest {
		m.nests--
	}
	return ok
}

func (m *model) piece(p *piece, v *visit) bool {
	switch p.kind {
	case 'r':
		return m.rule(p.word, v)
	case 'w':
		return m.token(p.word, v)
	case '[':
		return !m.begins(p.l[0])[m.word()] || m.piece(p.l[0], v)
	case '{':
		for m.begins(p.l[0])[m.word()] {
			if !m.piece(p.l[0], v) {
				return false
			}
		}
		return true
	case '|':
		return m.ways(p, v)
	}
	for _, q := range p.l {
		if !m.piece(q, v) {
			return false
		}
	}
	return true
}

// ways goes the only way, or the first one that fits the next token; [ alone needs a look at one token more.
func (m *model) ways(p *piece, v *visit) bool {
	if len(p.l) == 1 {
		return m.piece(p.l[0], v)
	}
	for i, q := range p.l {
		if !m.begins(q)[m.word()] {
			continue
		}
		if m.word() == "[" && q.l[1].word == "]" && (m.at+1 == len(m.toks) || wordOf(m.toks[m.at+1]) != "]") {
			continue
		}
		return m.piece(p.l[i], v)
	}
	return m.stop(api.ErrParse, m.at)
}

// token goes over a token, with all that is looked at where one is seen.
func (m *model) token(word string, v *visit) bool {
	if m.word() != word {
		return m.stop(api.ErrParse, m.at)
	}
	t := m.toks[m.at]
	behind := m.at > v.begin
	e := api.OK
	switch v.rule + " " + word {
	case "Int INT":
		if t.N > api.MaxInt && !behind {
			e = api.ErrLimit
		}
	case "Expr INT":
		if t.N > 8 {
			e = api.ErrLimit
		}
	case "Clause NAME":
		if v.up.some && v.up.name != t.S {
			e = api.ErrParse
		}
		v.name = t.S
	case "Catch NAME":
		if !strings.Contains(" error exit throw ", " "+t.S+" ") {
			e = api.ErrParse
		}
	case "Test NAME":
		if !strings.Contains(" is_atom is_integer is_pid is_reference is_tuple is_list is_function ", " "+t.S+" ") {
			e = api.ErrParse
		}
	case "Expr =":
		if !m.pattern(v.begin+1, m.at) {
			e = api.ErrParse
		}
	case "Expr end":
		if wordOf(m.toks[m.at-1]) == "receive" {
			e = api.ErrParse
		}
	}
	if e != api.OK {
		return m.stop(e, m.at)
	}
	m.at++
	return m.counted(word, v)
}

// counted looks at counts behind a comma, or a ')'.
func (m *model) counted(word string, v *visit) bool {
	switch {
	case v.rule != "Clause" && v.rule != "Args" || v.closed:
	case word == ",":
		if v.commas++; v.commas == 8 {
			return m.stop(api.ErrLimit, m.at)
		}
	case word == ")":
		v.closed = true
		if v.rule == "Args" {
			break
		}
		many := v.commas
		if m.at-v.begin > 3 {
			many++
		}
		if v.up.some && v.up.many != many {
			return m.stop(api.ErrParse, v.begin)
		}
		v.up.some, v.up.name, v.up.many = true, v.name, many
	}
	return true
}

// pattern tells whether the tokens from a to b are a pattern; none of them is deep.
func (m *model) pattern(a, b int) bool {
	o := &model{rules: m.rules, first: m.first, toks: m.toks[a:b]}
	return o.rule("Pat", nil) && o.at == b-a
}
