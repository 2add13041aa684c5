// Package ints is layer 1: integers of 60 bits, see shared/doc/01-ints.md.
package ints

import "pleach/api"

// sign is how the first of two things stands to the second one.
type sign int

const (
	less sign = iota - 1
	same
	greater
)

// May: P1.1.
func May(n int) bool {
	return -api.MaxInt-1 <= n && n <= api.MaxInt
}

// Arith: P1.1.
func Arith(op string) bool {
	_, ok := operations()[op]
	return ok
}

// Do: P1.2.
func Do(op string, a, b int) (int, api.Errno) {
	f, ok := operations()[op]
	if !ok || !May(a) || !May(b) {
		return 0, api.ErrArg
	}
	return told(f(a, b))
}

// Compare: P1.3.
func Compare(op string, c int) (bool, bool) {
	f, ok := comparisons()[op]
	return ok && f(signOf(c)), ok
}

// Read: P1.4.
func Read(s string) (int, int, api.Errno) {
	n, used := 0, 0
	for used < len(s) && '0' <= s[used] && s[used] <= '9' {
		// Held at one above MaxInt: of very many digits it would go round 64 bits.
		n = min(n*10+int(s[used]-'0'), api.MaxInt+1)
		used++
	}
	if used == 0 {
		return 0, 0, api.ErrArg
	}
	n, e := told(n)
	return n, used, e
}

// operations are functions of two integers that come to an int, which need not be an integer, or to an api.Errno.
func operations() map[string]func(a, b int) any {
	return map[string]func(a, b int) any{
		"+":   plus,
		"-":   minus,
		"*":   times,
		"div": quotient,
		"rem": rest,
	}
}

// Sums and differences of integers of 60 bits never go round 64 bits.
func plus(a, b int) any  { return a + b }
func minus(a, b int) any { return a - b }

func times(a, b int) any {
	p := a * b
	// A product that went round 64 bits may look like an integer; dividing it again shows it.
	if b != 0 && p/b != a {
		return api.ErrLimit
	}
	return p
}

func quotient(a, b int) any {
	if b == 0 {
		return api.ErrArith
	}
	return a / b
}

func rest(a, b int) any {
	if b == 0 {
		return api.ErrArith
	}
	return a % b
}

// told tells who is refused: an error by its number, a number that is no integer by ErrLimit.
func told(r any) (int, api.Errno) {
	switch x := r.(type) {
	case api.Errno:
		return 0, x
	case int:
		if May(x) {
			return x, api.OK
		}
	}
	return 0, api.ErrLimit
}

func comparisons() map[string]func(s sign) bool {
	return map[string]func(s sign) bool{
		"=:=": func(s sign) bool { return s == same },
		"=/=": func(s sign) bool { return s != same },
		"<":   func(s sign) bool { return s == less },
		"=<":  func(s sign) bool { return s != greater },
		">":   func(s sign) bool { return s == greater },
		">=":  func(s sign) bool { return s != less },
	}
}

func signOf(c int) sign {
	switch {
	case c < 0:
		return less
	case c > 0:
		return greater
	}
	return same
}
