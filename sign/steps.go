package sign

import (
	"slices"

	"bascule/api"
	"bascule/curve"
	"bascule/keccak"
	"bascule/wide"
)

// How often a signature is tried: first with sums, then with small numbers.
const (
	sums   = 256
	smalls = 16
	tries  = sums + smalls
)

// lookSecret: look at a curve, and at what must be a secret of it.
func lookSecret(c api.Curve, d api.U256) api.Errno {
	if e := curve.Check(c); e != api.OK {
		return e
	}
	if !order(c.N).isSecret(d) {
		return api.ErrRange
	}
	return api.OK
}

// number of a try, whose rest a signature is tried with.
func number(d api.U256, h [32]byte, try int) api.U256 {
	if try >= sums {
		return api.U256{uint64(try - sums + 1)}
	}
	b := wide.Bytes(d)
	return wide.From(keccak.Sum(slices.Concat(b[:], h[:], []byte{byte(try)})))
}

// signWith a number K, a rest. ErrNone: nothing comes of it, but may of another one.
func signWith(c api.Curve, k, d api.U256, h [32]byte) (api.Sign, api.Errno) {
	n := order(c.N)
	if k == (api.U256{}) {
		return api.Sign{}, api.ErrNone
	}
	p, e := curve.Mult(c, k, c.Base)
	if e != api.OK {
		return api.Sign{}, e
	}
	r := n.rest(p.X)
	if p.Far || r == (api.U256{}) {
		return api.Sign{}, api.ErrNone
	}
	inverse, e := n.inverse(k)
	if e != api.OK {
		return api.Sign{}, e
	}
	s := n.mul(inverse, n.add(n.ofSum(h), n.mul(r, d)))
	if s == (api.U256{}) {
		return api.Sign{}, api.ErrNone
	}
	return n.lowered(api.Sign{R: r, S: s, Odd: n.oddOf(p)}), api.OK
}

// oddOf a point: what of it its X's rest does not say.
func (n order) oddOf(p api.Point) int {
	odd := int(p.Y[0] % 2)
	if wide.Cmp(p.X, api.U256(n)) >= 0 {
		odd += 2
	}
	return odd
}

// lowered: of the two signatures that are right alike the one that may be.
func (n order) lowered(s api.Sign) api.Sign {
	if n.isHigh(s.S) {
		s.S = n.minus(s.S)
		s.Odd ^= 1
	}
	return s
}

// pointOf a signature: the one whose X it tells the rest of.
func pointOf(c api.Curve, s api.Sign) (api.Point, api.Errno) {
	x, over := s.R, false
	if s.Odd >= 2 {
		x, over = wide.Add(s.R, c.N)
	}
	p, e := curve.Lift(c, x, s.Odd%2 == 1)
	if over || e != api.OK {
		return api.Point{}, api.ErrSign
	}
	return p, api.OK
}

// both Base so often as k says, and a point so often as l says, added.
func both(c api.Curve, k api.U256, p api.Point, l api.U256) (api.Point, api.Errno) {
	a, e := curve.Mult(c, k, c.Base)
	if e != api.OK {
		return api.Point{}, e
	}
	b, e := curve.Mult(c, l, p)
	if e != api.OK {
		return api.Point{}, e
	}
	return curve.Add(c, a, b)
}
