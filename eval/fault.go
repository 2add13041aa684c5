package eval

import (
	"errors"
	"strconv"

	"pleach/api"
	"pleach/term"
)

// fault is what an expression comes to that comes to no value.
type fault struct{ out api.Out }

// inCall is what went wrong in a call, with the function that was called.
type inCall struct {
	f   api.Fn
	err error
}

func (f *fault) Error() string {
	if f.out.Class == api.ClNone {
		return "nothing, by " + strconv.Itoa(int(f.out.Why))
	}
	return classes[f.out.Class] + " " + term.Text(f.out.T)
}

func (c *inCall) Error() string {
	return c.f.S + ":" + c.f.T + "/" + strconv.Itoa(c.f.N) + ": " + c.err.Error()
}

// Unwrap tells what went wrong.
func (c *inCall) Unwrap() error { return c.err }

// nothing is what comes to neither a value nor an exception.
func nothing(why int8) error { return &fault{api.Out{Why: why}} }

// raised is the exception that goes on as err, through whatever calls.
func raised(err error) (api.Out, bool) {
	var f *fault
	if !errors.As(err, &f) || f.out.Class == api.ClNone {
		return api.Out{}, false
	}
	return f.out, true
}

// valueOf takes apart what something came to.
func valueOf(o api.Out) (api.Term, error) {
	if !isValue(o) {
		return api.Term{}, &fault{o}
	}
	return o.T, nil
}

// outOf puts it together again.
func outOf(t api.Term, err error) api.Out {
	var f *fault
	if errors.As(err, &f) {
		return f.out
	}
	return value(t)
}
