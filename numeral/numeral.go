// Package numeral: numbers as decimal digits, for all packages that read texts.
package numeral

import "math"

// Digits reads one digit or more, whose number is below 2^63.
// It is not left to strconv, which would take a sign for a digit.
func Digits(s string) (int64, bool) {
	n := int64(0)
	for i := 0; i < len(s); i++ {
		if s[i] < '0' || s[i] > '9' {
			return 0, false
		}
		digit := int64(s[i] - '0')
		if n > (math.MaxInt64-digit)/10 {
			return 0, false
		}
		n = n*10 + digit
	}
	return n, s != ""
}

// Plain reads Digits without a 0 ahead of another one: the one way to write a number.
func Plain(s string) (int64, bool) {
	if len(s) > 1 && s[0] == '0' {
		return 0, false
	}
	return Digits(s)
}
