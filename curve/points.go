package curve

import (
	"bascule/api"
	"bascule/wide"
)

// mustBe: note it if a curve may not be. That A, B and the base are below P shows
// where they are reckoned with.
func mustBe(h hand, c api.Curve) {
	h.must(wide.Cmp(c.P, api.U256{3}) > 0 && c.P[0]%4 == 3)
	h.must(wide.Cmp(c.N, api.U256{1}) > 0)
	h.must(slopes(h, c) != api.U256{})
	h.must(!c.Base.Far)
	mustHave(h, c, c.Base)
}

// slopes: 0 if the curve has a place at which there is none.
func slopes(h hand, c api.Curve) api.U256 {
	a := h.mul(c.A, h.mul(c.A, c.A))
	b := h.mul(c.B, c.B)
	a = h.twice(h.twice(a))
	// 27 itself may not be below P.
	return h.add(a, h.thrice(h.thrice(h.thrice(b))))
}

// mustHave: note it if a point is none of a curve.
func mustHave(h hand, c api.Curve, p api.Point) {
	if p.Far {
		h.must(p == far())
		return
	}
	h.must(h.mul(p.Y, p.Y) == right(h, c, p.X))
}

// right side of what holds for the points of a curve.
func right(h hand, c api.Curve, x api.U256) api.U256 {
	cube := h.mul(x, h.mul(x, x))
	return h.add(h.add(cube, h.mul(c.A, x)), c.B)
}

func far() api.Point { return api.Point{Far: true} }

// sum of two points of a curve with this A.
func sum(h hand, a api.U256, p, q api.Point) api.Point {
	switch {
	case p.Far:
		return q
	case q.Far:
		return p
	case p.X == q.X && h.add(p.Y, q.Y) == api.U256{}:
		return far()
	}
	s := slope(h, a, p, q)
	x := h.sub(h.sub(h.mul(s, s), p.X), q.X)
	y := h.sub(h.mul(s, h.sub(p.X, x)), p.Y)
	return api.Point{X: x, Y: y}
}

// slope of the line through two points, or along one.
func slope(h hand, a api.U256, p, q api.Point) api.U256 {
	if p == q {
		return h.div(h.add(h.thrice(h.mul(p.X, p.X)), a), h.twice(p.Y))
	}
	return h.div(h.sub(q.Y, p.Y), h.sub(q.X, p.X))
}
