package code

import (
	"strconv"
	"strings"

	"pleach/api"
	"pleach/term"
)

// written is the text of a code that may be.
func written(p api.Prog) string {
	var b strings.Builder
	line := func(words ...string) {
		b.WriteString(strings.Join(words, " "))
		b.WriteByte('\n')
	}
	for _, f := range p.Fns {
		line("fn", f.S+":"+f.T+"/"+strconv.Itoa(f.N), strconv.Itoa(f.At), strconv.Itoa(f.Slots))
	}
	for at, c := range p.Ops {
		line(strconv.Itoa(at), strconv.Itoa(int(c.Op)), strconv.Itoa(c.A), strconv.Itoa(c.B), told(c))
	}
	return b.String()
}

// told is the text of the term that an instruction names.
func told(c api.Code) string {
	switch {
	case fields[c.Op]&hasT == 0:
		return ""
	case c.T.K == api.KAtom:
		// An operator's name is no atom's: term has no text for it.
		return c.T.S
	}
	return term.Text(c.T)
}
