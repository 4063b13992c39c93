package wide

import (
	"math/bits"

	"bascule/api"
)

// Show a number in decimal digits (P1.6).
func Show(a api.U256) string {
	var b [api.MaxDigits]byte
	at := len(b)
	for {
		var r uint64
		a, r = split(a, 10)
		at--
		b[at] = '0' + byte(r)
		if a == (api.U256{}) {
			return string(b[at:])
		}
	}
}

// Parse decimal digits (P1.7).
func Parse(s string) (api.U256, api.Errno) {
	if len(s) > api.MaxDigits {
		return api.U256{}, api.ErrSize
	}
	if !decimal(s) {
		return api.U256{}, api.ErrForm
	}
	var a api.U256
	for i := range len(s) {
		product, over := times(a, 10)
		sum, carry := plus(product, api.U256{uint64(s[i] - '0')})
		if over != 0 || carry != 0 {
			return api.U256{}, api.ErrRange
		}
		a = sum
	}
	return a, api.OK
}

// decimal: does a text have digits alone, and no needless nought ahead?
func decimal(s string) bool {
	for i := range len(s) {
		if s[i] < '0' || s[i] > '9' {
			return false
		}
	}
	return len(s) == 1 || len(s) > 1 && s[0] != '0'
}

// split: the quotient by a single part that is not 0, and what is left.
func split(a api.U256, by uint64) (q api.U256, r uint64) {
	for i := len(a) - 1; i >= 0; i-- {
		q[i], r = bits.Div64(r, a[i], by)
	}
	return q, r
}
