package field

import (
	"math/bits"

	"bascule/api"
	"bascule/wide"
)

// product of two numbers below the modulus. What is left of a product is found
// with a modulus whose highest bit is 1: another one is moved up until it is, and
// the product with it, which what is left is moved down again for.
func product(a, b, m api.U256) api.U256 {
	n := noughts(m)
	if n == 0 {
		return rest(a, b, m)
	}
	m, _ = wide.Mul(m, bit(n))
	b, _ = wide.Mul(b, bit(n))
	_, r := wide.Mul(rest(a, b, m), bit(256-n))
	return r
}

// rest of a product, part by part, by a modulus whose highest bit is 1. Both
// numbers are below the modulus, so that the higher half of their product is, too:
// it is what is left of itself.
func rest(a, b, m api.U256) api.U256 {
	low, left := wide.Mul(a, b)
	for i := len(low) - 1; i >= 0; i-- {
		left = bring(left, low[i], m)
	}
	return left
}

// bring down the next part: what is left by m of left and, below it, that part,
// where left is below m and the highest bit of m is 1.
func bring(left api.U256, next uint64, m api.U256) api.U256 {
	top := left[3]
	q := guess(top, left[2], m[3])
	left, over := less(api.U256{next, left[0], left[1], left[2]}, q, m)
	top -= over
	// A guess that is too great leaves a number below 0, which shows in the
	// fifth part. It is too great by two at most.
	for top != 0 {
		var carry bool
		left, carry = wide.Add(left, m)
		if carry {
			top++
		}
	}
	return left
}

// guess: the quotient of two parts by one that is not below the higher one; or
// the greatest part, if it is none.
func guess(high, low, by uint64) uint64 {
	if high >= by {
		return ^uint64(0)
	}
	q, _ := bits.Div64(high, low, by)
	return q
}

// less: a number less another one q times, and what that borrows from a fifth part.
func less(a api.U256, q uint64, b api.U256) (rest api.U256, over uint64) {
	for i := range b {
		high, low := bits.Mul64(b[i], q)
		low, carry := bits.Add64(low, over, 0)
		var borrow uint64
		rest[i], borrow = bits.Sub64(a[i], low, 0)
		over = high + carry + borrow
	}
	return rest, over
}

// noughts: how many bits ahead of the highest 1 are 0.
func noughts(a api.U256) int {
	n := 0
	for i := len(a) - 1; i >= 0; i-- {
		n += bits.LeadingZeros64(a[i])
		if a[i] != 0 {
			break
		}
	}
	return n
}

// bit: the number in which only this bit is 1.
func bit(n int) api.U256 {
	var a api.U256
	a[n/64] = 1 << (n % 64)
	return a
}
