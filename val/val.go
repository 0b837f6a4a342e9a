// Package val is layer 1: numbers that do not run over: see shared/doc/01-val.md.
package val

import "semblance/api"

// mostBytes is how long the least int's text is: the sign, and 19 digits.
const mostBytes = 20

// Near is the nearest value.
func Near(x int) int { return Clamp(x, -api.Big, api.Big) }

// Clamp is the number nearest to another one, between two.
func Clamp(x, lo, hi int) int {
	if x < lo {
		return lo
	}
	if x > hi {
		return hi
	}
	return x
}

// Plus is the sum.
func Plus(a, b int) int { return Near(Near(a) + Near(b)) }

// Minus is the difference.
func Minus(a, b int) int { return Near(Near(a) - Near(b)) }

// Times is the product.
func Times(a, b int) int { return Near(Near(a) * Near(b)) }

// Put is a number's text.
func Put(n int) string {
	// Digits are taken of a number not above 0: the least int has no opposite.
	rest := n
	if n > 0 {
		rest = -n
	}
	var text [mostBytes]byte
	at := len(text) - 1
	for rest < -9 {
		text[at] = digit(-(rest % 10))
		rest /= 10
		at--
	}
	text[at] = digit(-rest)
	if n < 0 {
		at--
		text[at] = '-'
	}
	return string(text[at:])
}

// Get is the number that digits say.
func Get(s string) (int, api.Errno) {
	if !numeral(s) {
		return 0, api.ErrText
	}
	n := 0
	for i := range len(s) {
		n = 10*n + int(s[i]-'0')
		// Asked at each digit: a great many of them would run over an int.
		if n > api.Big {
			return 0, api.ErrRange
		}
	}
	return n, api.OK
}

// digit is the byte of a number from 0 to 9.
func digit(n int) byte { return '0' + byte(n) }

// numeral tells whether a text is digits alone, with no 0 ahead of others.
func numeral(s string) bool {
	if s == "" || s[0] == '0' && len(s) > 1 {
		return false
	}
	for i := range len(s) {
		if s[i] < '0' || s[i] > '9' {
			return false
		}
	}
	return true
}
