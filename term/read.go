package term

import (
	"strconv"
	"strings"

	"pleach/api"
	"pleach/atoms"
	"pleach/ints"
)

// reader reads terms from a text. Its methods answer terms whose nodes may be, but which may have too many of them.
type reader struct {
	s     string
	at    int
	begun int // parts
}

// Read: P3.4.
func Read(s string) (t api.Term, used int, e api.Errno) {
	r := reader{s: s}
	t, e = r.part()
	if e == api.OK && Size(t) > api.MaxTerm {
		e = api.ErrLimit
	}
	if e != api.OK {
		return api.Term{}, 0, e
	}
	return t, r.at, api.OK
}

// part reads what stands where a part should stand.
func (r *reader) part() (api.Term, api.Errno) {
	if !r.begins() {
		return api.Term{}, api.ErrArg
	}
	if r.begun == api.MaxTerm {
		return api.Term{}, api.ErrLimit
	}
	r.begun++
	switch c := r.s[r.at]; {
	case c == '{':
		return r.tuple()
	case c == '[':
		return r.list()
	case c == '<':
		n, e := r.marked("<")
		return termOf(pid(n)), e
	case c == '#':
		n, e := r.marked("#Ref<")
		return termOf(ref(n)), e
	case c == '-' || '0' <= c && c <= '9':
		return r.integer()
	}
	return r.name()
}

func (r *reader) begins() bool {
	if r.at >= len(r.s) {
		return false
	}
	first := r.s[r.at : r.at+1]
	return strings.Contains("{[<#-", first) || atoms.Prefix(first) == 1
}

// take goes behind a word, if it stands here.
func (r *reader) take(word string) bool {
	if !strings.HasPrefix(r.s[r.at:], word) {
		return false
	}
	r.at += len(word)
	return true
}

func (r *reader) tuple() (api.Term, api.Errno) {
	r.take("{")
	if r.take("}") {
		return termOf(tuple(nil)), api.OK
	}
	l, e := r.row()
	if e == api.OK && !r.take("}") {
		e = api.ErrArg
	}
	return termOf(tuple(l)), e
}

func (r *reader) list() (api.Term, api.Errno) {
	r.take("[")
	tail := termOf(empty{})
	if r.take("]") {
		return tail, api.OK
	}
	l, e := r.row()
	if e == api.OK && r.take("|") {
		tail, e = r.tail()
	}
	if e == api.OK && !r.take("]") {
		e = api.ErrArg
	}
	return roll(l, tail), e
}

// tail reads what stands behind |. A list there would have another text.
func (r *reader) tail() (api.Term, api.Errno) {
	t, e := r.part()
	if e == api.OK && (t.K == api.KNil || t.K == api.KCons) {
		e = api.ErrArg
	}
	return t, e
}

// row reads parts with commas between, at least one.
func (r *reader) row() ([]api.Term, api.Errno) {
	var l []api.Term
	for {
		t, e := r.part()
		if e != api.OK {
			return nil, e
		}
		l = append(l, t)
		if !r.take(",") {
			return l, api.OK
		}
	}
}

// marked reads a number between such a mark and a >.
func (r *reader) marked(mark string) (int, api.Errno) {
	if !r.take(mark) {
		return 0, api.ErrArg
	}
	n, e := r.digits()
	if e == api.OK && !r.take(">") {
		e = api.ErrArg
	}
	return n, e
}

func (r *reader) integer() (api.Term, api.Errno) {
	if !r.take("-") {
		n, e := r.digits()
		return termOf(integer(n)), e
	}
	from := r.at
	n, e := r.digits()
	// The least integer has no opposite.
	if e == api.ErrLimit && r.s[from:r.at] == strconv.Itoa(api.MaxInt+1) {
		n, e = api.MaxInt+1, api.OK
	}
	if e == api.OK && n == 0 {
		e = api.ErrArg
	}
	return termOf(integer(-n)), e
}

// digits reads a number without a sign.
func (r *reader) digits() (int, api.Errno) {
	n, used, e := ints.Read(r.s[r.at:])
	// A nought ahead is met before the number grows too great.
	if used > 1 && r.s[r.at] == '0' {
		return 0, api.ErrArg
	}
	r.at += used
	return n, e
}

// name reads an atom, or a fun.
func (r *reader) name() (api.Term, api.Errno) {
	var s string
	if !r.word(&s) {
		return api.Term{}, api.ErrArg
	}
	if s == "fun" {
		if f, ok := r.fun(); ok {
			return termOf(f), api.OK
		}
	}
	return termOf(atom(s)), api.OK
}

// word reads a name that an atom may have into s.
func (r *reader) word(s *string) bool {
	rest := r.s[r.at:]
	name := rest[:atoms.Prefix(rest)]
	if !atoms.May(name) {
		return false
	}
	r.at += len(name)
	// A copy: a piece would hold on to the whole text.
	*s = strings.Clone(name)
	return true
}

// fun reads what stands behind the word fun; where that is no fun's text, it stays there.
func (r *reader) fun() (fun, bool) {
	var f fun
	ahead := *r
	if !ahead.take(" ") || !ahead.word(&f.s) || !ahead.take(":") || !ahead.word(&f.t) || !ahead.take("/") {
		return fun{}, false
	}
	n, e := ahead.digits()
	f.n = n
	if e != api.OK || !may(f) {
		return fun{}, false
	}
	*r = ahead
	return f, true
}
