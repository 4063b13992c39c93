package field

import (
	"bascule/api"
	"bascule/wide"
)

// pair of numbers, reckoned as all is here by 2^256: what is below 0 has 2^256 more.
type pair [2]api.U256

// turn of a pair: each row tells how often the old numbers go into a new one.
type turn [2]pair

// inverse of a number below the modulus, by Euclid's way of dividing what was
// left by what is left. Each of the two is by the modulus a so often as its number
// in often says, and what turns the one pair turns the other.
func inverse(a, m api.U256) (api.U256, api.Errno) {
	left, often := pair{m, a}, pair{{}, {1}}
	for left[1] != (api.U256{}) {
		t, ok := foresee(left)
		if !ok {
			t = division(left)
		}
		left, often = t.of(left), t.of(often)
	}
	if left[0] != (api.U256{1}) {
		return api.U256{}, api.ErrNone
	}
	return above(often[0], m), api.OK
}

// above 0, what may be below it. It is never further from 0 than half of the
// modulus, so that its highest bit tells.
func above(a, m api.U256) api.U256 {
	if a[3]>>63 == 1 {
		a, _ = wide.Add(a, m)
	}
	return a
}

// division of the first number by the second one, which is not 0.
func division(p pair) turn {
	q, _, _ := wide.DivMod(p[0], p[1])
	minus, _ := wide.Sub(api.U256{}, q)
	return turn{{{}, {1}}, {{1}, minus}}
}

// foresee several divisions in one turn, as a division of the whole numbers costs
// much more than one of their highest bits. These leave open what stands below
// them, but as long as the least and the greatest numbers that they may be of have
// the same quotient, it is the right one. Not ok: not even one is sure.
func foresee(p pair) (t turn, ok bool) {
	n := noughts(p[0])
	x, y := highest(p[0], n), highest(p[1], n)
	var a, b, c, d int64 = 1, 0, 0, 1
	for y+c != 0 && y+d != 0 {
		q := (x + a) / (y + c)
		if q != (x+b)/(y+d) {
			break
		}
		x, y = y, x-q*y
		a, b, c, d = c, d, a-q*c, b-q*d
	}
	return turn{{signed(a), signed(b)}, {signed(c), signed(d)}}, b != 0
}

// highest 62 bits behind n others: two less than a part has, for sums and signs.
func highest(a api.U256, n int) int64 {
	i, rest := 3-n/64, n%64
	bits := a[i] << rest
	if i > 0 {
		bits |= a[i-1] >> (64 - rest)
	}
	return int64(bits >> 2)
}

// signed: a number that may be below 0.
func signed(n int64) api.U256 {
	sign := uint64(n >> 63)
	return api.U256{uint64(n), sign, sign, sign}
}

// of a pair, what it is turned into.
func (t turn) of(p pair) pair {
	var r pair
	for i, row := range t {
		first, _ := wide.Mul(row[0], p[0])
		second, _ := wide.Mul(row[1], p[1])
		r[i], _ = wide.Add(first, second)
	}
	return r
}
