package term

import (
	"strconv"

	"pleach/api"
)

// Text: P3.4.
func Text(t api.Term) string {
	if Check(t) != api.OK {
		return ""
	}
	return string(appendTerm(nil, t))
}

func appendTerm(b []byte, t api.Term) []byte {
	switch x := nodeOf(t).(type) {
	case integer:
		return appendNumber(b, int(x))
	case atom:
		return append(b, x...)
	case ref:
		return append(appendNumber(append(b, "#Ref<"...), int(x)), '>')
	case fun:
		b = append(append(b, "fun "...), x.s...)
		b = append(append(b, ':'), x.t...)
		return appendNumber(append(b, '/'), x.n)
	case pid:
		return append(appendNumber(append(b, '<'), int(x)), '>')
	case tuple:
		return append(appendRow(append(b, '{'), x), '}')
	case empty:
		return append(b, "[]"...)
	case cons:
		return appendCons(b, t)
	}
	return b
}

func appendNumber(b []byte, n int) []byte {
	return strconv.AppendInt(b, int64(n), 10)
}

func appendRow(b []byte, l []api.Term) []byte {
	for i, t := range l {
		if i > 0 {
			b = append(b, ',')
		}
		b = appendTerm(b, t)
	}
	return b
}

func appendCons(b []byte, t api.Term) []byte {
	l, tail := unroll(t)
	b = appendRow(append(b, '['), l)
	if tail.K != api.KNil {
		b = appendTerm(append(b, '|'), tail)
	}
	return append(b, ']')
}
