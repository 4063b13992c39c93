package sign

import (
	"bascule/api"
	"bascule/field"
	"bascule/wide"
)

// order: the N of a curve that may be. It is above 1, and what is reckoned by it are
// rests, so that chapter 2 refuses nothing of it but an inverse.
type order api.U256

// isSecret: is it a number from 1 to N - 1?
func (n order) isSecret(d api.U256) bool {
	return d != api.U256{} && wide.Cmp(d, api.U256(n)) < 0
}

// isHigh: is a secret the greater one of itself and what it lacks of N?
func (n order) isHigh(s api.U256) bool { return wide.Cmp(s, n.minus(s)) > 0 }

// mayBe: may a signature be right at all?
func (n order) mayBe(s api.Sign) bool {
	return n.isSecret(s.R) && n.isSecret(s.S) && !n.isHigh(s.S) && s.Odd >= 0 && s.Odd <= 3
}

func (n order) rest(a api.U256) api.U256 {
	_, r, _ := wide.DivMod(a, api.U256(n))
	return r
}

// ofSum: the rest of a sum's number.
func (n order) ofSum(h [32]byte) api.U256 { return n.rest(wide.From(h)) }

func (n order) add(a, b api.U256) api.U256 {
	s, _ := field.Add(a, b, api.U256(n))
	return s
}

func (n order) minus(a api.U256) api.U256 {
	d, _ := field.Sub(api.U256{}, a, api.U256(n))
	return d
}

func (n order) mul(a, b api.U256) api.U256 {
	p, _ := field.Mul(a, b, api.U256(n))
	return p
}

// inverse of a rest. Without one it is the curve's fault: with a prime N each secret has one.
func (n order) inverse(a api.U256) (api.U256, api.Errno) {
	i, e := field.Inv(a, api.U256(n))
	if e != api.OK {
		return api.U256{}, api.ErrCurve
	}
	return i, api.OK
}
