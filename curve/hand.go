package curve

import (
	"bascule/api"
	"bascule/field"
	"bascule/wide"
)

// hand: one that reckons by a modulus. What it can not do it notes, and goes on with 0.
// All hands at one work share their note, so that nobody asks for it ahead of the end.
type hand struct {
	m    api.U256
	note *api.Errno
}

// must hold: what does not is noted.
func (h hand) must(holds bool) {
	if !holds {
		*h.note = api.ErrCurve
	}
}

// told: a point, if nothing is noted. The note is read in here, as beside a call that
// may change it Go leaves open which of the two comes first.
func (h hand) told(p api.Point) (api.Point, api.Errno) {
	if *h.note != api.OK {
		return api.Point{}, *h.note
	}
	return p, api.OK
}

// kept: a number, of which it is noted if it could not be reckoned.
func (h hand) kept(a api.U256, e api.Errno) api.U256 {
	h.must(e == api.OK)
	return a
}

func (h hand) add(a, b api.U256) api.U256 { return h.kept(field.Add(a, b, h.m)) }

func (h hand) sub(a, b api.U256) api.U256 { return h.kept(field.Sub(a, b, h.m)) }

func (h hand) mul(a, b api.U256) api.U256 { return h.kept(field.Mul(a, b, h.m)) }

func (h hand) div(a, b api.U256) api.U256 { return h.mul(a, h.kept(field.Inv(b, h.m))) }

func (h hand) twice(a api.U256) api.U256 { return h.add(a, a) }

func (h hand) thrice(a api.U256) api.U256 { return h.add(a, h.twice(a)) }

// root of a number, if it has one: its power by a quarter of the modulus and 1.
func (h hand) root(a api.U256) api.U256 {
	// The modulus leaves 3 by 4, and with 1 it may be above all numbers.
	quarter, _, _ := wide.DivMod(h.m, api.U256{4})
	quarter, _ = wide.Add(quarter, api.U256{1})
	return h.kept(field.Pow(a, quarter, h.m))
}
