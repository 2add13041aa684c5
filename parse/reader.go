package parse

import (
	"pleach/api"
	"pleach/scan"
)

// What the grammar calls tokens of one kind; no word or mark of a text is written so.
const (
	nameWord = "NAME"
	varWord  = "VAR"
	intWord  = "INT"
	stopWord = "."
)

// endless is the most of a list that has no limit.
const endless = -1

// rule reads what a rule of the grammar says, or a piece of one, from the next token on, into a node.
type rule func(n *api.Node) (f api.Flaw)

// reader reads a text token by token.
type reader struct {
	tokens []api.Token // those that are not gone over yet
	flaw   api.Flaw    // the scan's, at which the tokens end, if there is one
	size   int         // the text's length
	deep   int         // how many nests stand in one another here

	pattern, guarded, expr *nest
}

// nest is one of the rules that stand in one another, Pat, GExpr and Expr: its ways, by the words that begin them.
type nest struct {
	*reader
	ways map[string]rule
}

func newReader(s string) *reader {
	r := &reader{size: len(s)}
	r.tokens, r.flaw = tokens(s)
	r.pattern, r.guarded, r.expr = &nest{reader: r}, &nest{reader: r}, &nest{reader: r}
	r.pattern.ways = r.pattern.common()
	r.guarded.ways = r.guardedWays()
	r.expr.ways = r.exprWays()
	return r
}

// tokens are those of a text, up to its first flaw.
func tokens(s string) (l []api.Token, f api.Flaw) {
	l, f = scan.Scan(s)
	if f.E == api.OK {
		return l, f
	}
	for _, t := range scan.Each(s) {
		l = append(l, t)
	}
	return l, f
}

// read reads one of the nest, as long as not too many stand in one another.
func (t *nest) read(n *api.Node) (f api.Flaw) {
	if t.deep == 2*api.MaxDepth {
		return t.refuse(api.ErrLimit)
	}
	t.deep++
	f = t.way(n, t.ways)
	t.deep--
	return f
}

// way reads by that rule which the next token begins.
func (r *reader) way(n *api.Node, ways map[string]rule) (f api.Flaw) {
	read, ok := ways[r.word()]
	if !ok {
		return r.refuse(api.ErrParse)
	}
	return read(n)
}

// word is what the grammar calls the next token; behind the last one it is none.
func (r *reader) word() string {
	if len(r.tokens) == 0 {
		return ""
	}
	switch t := r.tokens[0]; t.K {
	case api.TkAtom:
		return nameWord
	case api.TkVar:
		return varWord
	case api.TkInt:
		return intWord
	case api.TkEnd:
		return stopWord
	default:
		return t.S
	}
}

func (r *reader) is(word string) bool { return r.word() == word }

// take goes over the next token, which must be there.
func (r *reader) take() api.Token {
	t := r.tokens[0]
	r.tokens = r.tokens[1:]
	return t
}

// took goes over the next token, if it is that one.
func (r *reader) took(word string) bool {
	if !r.is(word) {
		return false
	}
	r.take()
	return true
}

// refuse is a fault at the next token, or at the text's length. A flaw of the scan, at which the tokens end, goes ahead of what only says that no way goes on there; what is one too many stands ahead of that flaw.
func (r *reader) refuse(e api.Errno) (f api.Flaw) {
	switch {
	case len(r.tokens) > 0:
		return api.Flaw{E: e, At: r.tokens[0].At}
	case r.flaw.E != api.OK && e != api.ErrLimit:
		return r.flaw
	}
	return api.Flaw{E: e, At: r.size}
}

// end goes on at the text's end alone.
func (r *reader) end(*api.Node) (f api.Flaw) {
	if len(r.tokens) > 0 || r.flaw.E != api.OK {
		f = r.refuse(api.ErrParse)
	}
	return f
}

func (r *reader) configOrEnd(n *api.Node) (f api.Flaw) {
	if r.is("config") {
		return f
	}
	return r.end(n)
}

// must goes over that token.
func (r *reader) must(word string) rule {
	return func(*api.Node) (f api.Flaw) {
		if !r.took(word) {
			f = r.refuse(api.ErrParse)
		}
		return f
	}
}

// said goes over the next token, if it fits, and puts what it says where that is to stand.
func (r *reader) said(fits bool, to *string) (f api.Flaw) {
	if !fits {
		return r.refuse(api.ErrParse)
	}
	*to = r.take().S
	return f
}

// name goes over a NAME, and puts it where it is to stand.
func (r *reader) name(to *string) rule {
	return func(*api.Node) (f api.Flaw) { return r.said(r.is(nameWord), to) }
}

// number goes over an INT, which becomes the node's number.
func (r *reader) number(most int) rule {
	return func(n *api.Node) (f api.Flaw) {
		switch {
		case !r.is(intWord):
			return r.refuse(api.ErrParse)
		case r.tokens[0].N > most:
			return r.refuse(api.ErrLimit)
		}
		n.N = r.take().N
		return f
	}
}

// steps reads by those rules, one behind the other, up to the first fault.
func steps(n *api.Node, rules ...rule) (f api.Flaw) {
	for _, read := range rules {
		if f = read(n); f.E != api.OK {
			break
		}
	}
	return f
}

// part makes what a rule reads the node's next part.
func part(read rule) rule {
	return func(n *api.Node) (f api.Flaw) {
		var p api.Node
		f = read(&p)
		n.L = append(n.L, p)
		return f
	}
}

// while reads parts as long as that token begins one.
func (r *reader) while(word string, read rule) rule {
	return func(n *api.Node) (f api.Flaw) {
		for f.E == api.OK && r.is(word) {
			f = part(read)(n)
		}
		return f
	}
}

// list reads one part, and one more behind each such mark; a mark behind the most parts that may be is one too many.
func (r *reader) list(mark string, most int, read rule) rule {
	return func(n *api.Node) (f api.Flaw) {
	on:
		for many := 1; ; many++ {
			f = part(read)(n)
			switch {
			case f.E != api.OK, !r.took(mark):
				break on
			case many == most:
				f = r.refuse(api.ErrLimit)
				break on
			}
		}
		return f
	}
}

// enclosed reads a list with commas between two marks; it may be empty.
func (r *reader) enclosed(first string, most int, read rule, last string) rule {
	return func(n *api.Node) (f api.Flaw) {
		if f = r.must(first)(n); f.E != api.OK || r.took(last) {
			return f
		}
		return steps(n, r.list(",", most, read), r.must(last))
	}
}
