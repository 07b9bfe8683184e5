// Package whole is layer 1: whole numbers of 64 bits that never go round. See shared/doc/01-whole.md.
package whole

import (
	"math"
	"strconv"

	"marline/api"
)

// Do reckons.
func Do(sign, a, b int) (int, int) {
	switch sign {
	case api.Plus:
		return fit(a+b, (a+b > a) == (b > 0))
	case api.Minus:
		return fit(a-b, (a-b < a) == (b > 0))
	case api.Times:
		return fit(a*b, timesFits(a, b))
	case api.Over, api.Rest:
		return divide(sign, a, b)
	}
	return 0, api.TrapRange
}

// Neg is 0 less a number.
func Neg(a int) (int, int) { return Do(api.Minus, 0, a) }

// fit is a result that went round only if it does not fit.
func fit(n int, fits bool) (int, int) {
	if !fits {
		return 0, api.TrapOver
	}
	return n, api.NoTrap
}

// timesFits: is a times b a number? The least number over -1 goes round, too,
// so that -1 is looked at by itself.
func timesFits(a, b int) bool {
	switch a {
	case 0:
		return true
	case -1:
		return b != math.MinInt
	}
	return a*b/a == b
}

// divide is a quotient or a rest.
func divide(sign, a, b int) (int, int) {
	if b == 0 {
		return 0, api.TrapDiv
	}
	if sign == api.Rest {
		return a % b, api.NoTrap
	}
	return fit(a/b, a != math.MinInt || b != -1)
}

// Holds: does a comparison hold?
func Holds(sign, a, b int) bool {
	switch sign {
	case api.Same:
		return a == b
	case api.Apart:
		return a != b
	case api.Less:
		return a < b
	case api.Most:
		return a <= b
	case api.More:
		return a > b
	case api.Least:
		return a >= b
	}
	return false
}

// Text is a number in digits.
func Text(n int) string { return strconv.Itoa(n) }

// Read is the number that digits are.
func Read(s string) (int, api.Errno) {
	if !digits(s) {
		return 0, api.ErrForm
	}
	n, err := strconv.Atoi(s)
	if err != nil { // of digits alone nothing but their number can be wrong
		return 0, api.ErrRange
	}
	return n, api.OK
}

// digits: are there bytes, and all of them digits?
func digits(s string) bool {
	for i := range len(s) {
		if s[i] < '0' || s[i] > '9' {
			return false
		}
	}
	return s != ""
}

// Signed is the number that a text is of.
func Signed(s string) (int, api.Errno) {
	n, err := strconv.Atoi(s)
	if err != nil || Text(n) != s { // Atoi takes + and noughts ahead, too
		return 0, api.ErrForm
	}
	return n, api.OK
}
