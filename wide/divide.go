package wide

import (
	"math/bits"

	"bascule/api"
)

// DivMod: the quotient and what is left (P1.4).
func DivMod(a, b api.U256) (q, r api.U256, e api.Errno) {
	if b == (api.U256{}) {
		return q, r, api.ErrZero
	}
	q, r = divide(a, b)
	return q, r, api.OK
}

// divide by a number that is not 0. Both numbers are moved up by the same bits,
// until the highest bit of the divisor is 1: only then a guess of a digit is
// nearly right. That changes no quotient, and what is left is moved down again.
func divide(a, b api.U256) (q, r api.U256) {
	n := noughts(b)
	b = up(b, n)
	r = down(a, 256-n)
	a = up(a, n)
	for i := len(a) - 1; i >= 0; i-- {
		q[i], r = digit(r, a[i], b)
	}
	return q, down(r, n)
}

// digit divides the five parts of r and, below it, next, where r is below b and
// the highest bit of b is 1: the quotient has one part then.
func digit(r api.U256, next uint64, b api.U256) (uint64, api.U256) {
	top := r[3]
	r = api.U256{next, r[0], r[1], r[2]}
	q := guess(top, r[3], b[3])
	product, over := times(b, q)
	r, borrow := less(r, product)
	top -= over + borrow
	// A guess that is too great leaves a number below 0, which shows in the
	// fifth part. It is too great by two at most.
	for top != 0 {
		var carry uint64
		r, carry = plus(r, b)
		top += carry
		q--
	}
	return q, r
}

// guess: the quotient of two parts by one whose highest bit is 1 and that is not
// below the higher one; or the greatest part, if it is none.
func guess(high, low, by uint64) uint64 {
	if high >= by {
		return ^uint64(0)
	}
	q, _ := bits.Div64(high, low, by)
	return q
}

// noughts: how many bits ahead of the highest 1 are 0.
func noughts(a api.U256) int {
	n := 0
	for i := len(a) - 1; i >= 0; i-- {
		n += bits.LeadingZeros64(a[i])
		if a[i] != 0 {
			break
		}
	}
	return n
}

// up moves a number up by n bits, from 0 to 256; what leaves it is lost.
func up(a api.U256, n int) api.U256 {
	var r api.U256
	parts, rest := n/64, n%64
	for i := parts; i < len(r); i++ {
		r[i] = a[i-parts] << rest
		if i > parts {
			r[i] |= a[i-parts-1] >> (64 - rest)
		}
	}
	return r
}

// down moves a number down by n bits, from 0 to 256; what leaves it is lost.
func down(a api.U256, n int) api.U256 {
	var r api.U256
	parts, rest := n/64, n%64
	for i := parts; i < len(a); i++ {
		r[i-parts] = a[i] >> rest
		if i+1 < len(a) {
			r[i-parts] |= a[i+1] << (64 - rest)
		}
	}
	return r
}
