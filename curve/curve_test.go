package curve_test

import (
	"crypto/elliptic"
	"fmt"
	"math/big"
	"testing"

	"bascule/api"
	"bascule/curve"
)

const full = ^uint64(0)

var (
	nought  = api.U256{}
	highest = api.U256{full, full, full, full}
	farOne  = api.Point{Far: true}
)

// toBig and fromBig go part by part, so that they lean on nothing of the program.
func toBig(a api.U256) *big.Int {
	n := new(big.Int)
	for i := len(a) - 1; i >= 0; i-- {
		n.Lsh(n, 64).Or(n, new(big.Int).SetUint64(a[i]))
	}
	return n
}

func fromBig(n *big.Int) api.U256 {
	if n.Sign() < 0 || n.BitLen() > 256 {
		panic("no number of 256 bits: " + n.String())
	}
	var a api.U256
	for i := range a {
		a[i] = new(big.Int).Rsh(n, uint(64*i)).Uint64()
	}
	return a
}

func hex(s string) api.U256 {
	n, ok := new(big.Int).SetString(s, 16)
	if !ok {
		panic("no digits: " + s)
	}
	return fromBig(n)
}

func at(x, y uint64) api.Point { return api.Point{X: api.U256{x}, Y: api.U256{y}} }

func toy() api.Curve {
	return api.Curve{P: api.U256{43}, B: api.U256{7}, N: api.U256{31}, Base: at(2, 12)}
}

func secp256k1() api.Curve {
	return api.Curve{
		P: api.U256{0xfffffffefffffc2f, full, full, full},
		B: api.U256{7},
		N: api.U256{0xbfd25e8cd0364141, 0xbaaedce6af48a03b, full - 1, full},
		Base: api.Point{
			X: hex("79BE667EF9DCBBAC55A06295CE870B07029BFCDB2DCE28D959F2815B16F81798"),
			Y: hex("483ADA7726A3C4655DA4FBFC0E1108A8FD17B448A68554199C47D08FFB10D4B8"),
		},
	}
}

// p256 is a curve of which the library knows all by itself.
func p256() api.Curve {
	c := elliptic.P256().Params()
	return api.Curve{
		P: fromBig(c.P), A: fromBig(new(big.Int).Sub(c.P, big.NewInt(3))), B: fromBig(c.B),
		N: fromBig(c.N), Base: api.Point{X: fromBig(c.Gx), Y: fromBig(c.Gy)},
	}
}

// widest: by the greatest modulus, which is no prime.
func widest() api.Curve {
	return api.Curve{P: highest, A: api.U256{1}, N: highest}
}

// model reckons with a curve's points as the chapter words it; nil is the far one.
type model struct{ p, a, b *big.Int }

type pair struct{ x, y *big.Int }

func modelOf(c api.Curve) model { return model{toBig(c.P), toBig(c.A), toBig(c.B)} }

func (m model) mod(n *big.Int) *big.Int { return new(big.Int).Mod(n, m.p) }

func (m model) right(x *big.Int) *big.Int {
	r := new(big.Int).Mul(x, x)
	r.Add(r, m.a).Mul(r, x)
	return m.mod(r.Add(r, m.b))
}

func (m model) has(p api.Point) bool {
	if p.Far {
		return p.X == nought && p.Y == nought
	}
	x, y := toBig(p.X), toBig(p.Y)
	return x.Cmp(m.p) < 0 && y.Cmp(m.p) < 0 && m.mod(new(big.Int).Mul(y, y)).Cmp(m.right(x)) == 0
}

// sum, and whether there is one.
func (m model) sum(p, q *pair) (*pair, bool) {
	if p == nil {
		return q, true
	}
	if q == nil {
		return p, true
	}
	up, along := new(big.Int).Sub(q.y, p.y), new(big.Int).Sub(q.x, p.x)
	if along.Sign() == 0 && m.mod(new(big.Int).Add(p.y, q.y)).Sign() == 0 {
		return nil, true
	}
	if along.Sign() == 0 && up.Sign() == 0 {
		up = new(big.Int).Mul(p.x, p.x)
		up.Mul(up, big.NewInt(3)).Add(up, m.a)
		along = new(big.Int).Lsh(p.y, 1)
	}
	over := new(big.Int).ModInverse(m.mod(along), m.p)
	if over == nil {
		return nil, false
	}
	s := up.Mul(up, over)
	x := new(big.Int).Mul(s, s)
	x = m.mod(x.Sub(x, p.x).Sub(x, q.x))
	y := new(big.Int).Sub(p.x, x)
	return &pair{x, m.mod(y.Mul(y, s).Sub(y, p.y))}, true
}

func (m model) mult(k *big.Int, p *pair) (*pair, bool) {
	var s *pair
	ok := true
	for i := k.BitLen() - 1; i >= 0 && ok; i-- {
		s, ok = m.sum(s, s)
		if ok && k.Bit(i) == 1 {
			s, ok = m.sum(s, p)
		}
	}
	return s, ok
}

// lift, and whether there is a point.
func (m model) lift(x *big.Int, odd bool) (*pair, bool) {
	right := m.right(x)
	quarter := new(big.Int).Add(m.p, big.NewInt(1))
	y := right.Exp(right, quarter.Rsh(quarter, 2), m.p)
	for range 2 {
		if (y.Bit(0) == 1) == odd && m.mod(new(big.Int).Mul(y, y)).Cmp(m.right(x)) == 0 {
			return &pair{x, y}, true
		}
		y = m.mod(new(big.Int).Neg(y))
	}
	return nil, false
}

func toPair(p api.Point) *pair {
	if p.Far {
		return nil
	}
	return &pair{toBig(p.X), toBig(p.Y)}
}

// fromPair: what a call must answer.
func fromPair(p *pair, ok bool) (api.Point, api.Errno) {
	if !ok {
		return api.Point{}, api.ErrCurve
	}
	if p == nil {
		return farOne, api.OK
	}
	return api.Point{X: fromBig(p.x), Y: fromBig(p.y)}, api.OK
}

// points: all of a small curve.
func points(c api.Curve) []api.Point {
	m := modelOf(c)
	l := []api.Point{farOne}
	for x := range c.P[0] {
		for y := range c.P[0] {
			if p := at(x, y); m.has(p) {
				l = append(l, p)
			}
		}
	}
	return l
}

// smalls: small curves that may be, by primes and by others.
func smalls() []api.Curve {
	l := []api.Curve{toy()}
	for _, p := range []uint64{7, 11, 15, 19, 23, 27, 35, 39} {
		for i, ab := range [][2]uint64{{0, 1}, {1, 0}, {p - 3, 1}, {p / 2, p - 2}} {
			c := api.Curve{P: api.U256{p}, A: api.U256{ab[0]}, B: api.U256{ab[1]}, N: api.U256{uint64(i) + 2}}
			all := points(c)
			flat := (4*ab[0]*ab[0]*ab[0] + 27*ab[1]*ab[1]) % p
			if len(all) > 1 && flat != 0 {
				c.Base = all[len(all)/2]
				l = append(l, c)
			}
		}
	}
	return l
}

type change struct {
	what string
	do   func(c *api.Curve)
}

// breaks: what makes of the toy curve none that may be.
func breaks() []change {
	return []change{
		{"all 0", func(c *api.Curve) { *c = api.Curve{} }},
		{"all as high as can be", func(c *api.Curve) {
			*c = api.Curve{P: highest, A: highest, B: highest, N: highest, Base: api.Point{X: highest, Y: highest}}
		}},
		{"P 0", func(c *api.Curve) { c.P = nought }},
		{"P 3", func(c *api.Curve) { c.P, c.B, c.Base = api.U256{3}, api.U256{1}, at(0, 1) }},
		{"P 3, A 1", func(c *api.Curve) { c.P, c.A, c.B, c.Base = api.U256{3}, api.U256{1}, nought, at(0, 0) }},
		{"P even", func(c *api.Curve) { c.P, c.B, c.Base = api.U256{46}, api.U256{1}, at(0, 1) }},
		{"P leaves 1", func(c *api.Curve) { c.P, c.B, c.Base = api.U256{41}, api.U256{1}, at(0, 1) }},
		{"P leaves 2", func(c *api.Curve) { c.P, c.B, c.Base = api.U256{42}, api.U256{1}, at(0, 1) }},
		{"A is P", func(c *api.Curve) { c.A = c.P }},
		{"A above P", func(c *api.Curve) { c.A = api.U256{0, 0, 0, 1} }},
		{"B is P", func(c *api.Curve) { c.A, c.B, c.Base = api.U256{1}, c.P, at(0, 0) }},
		{"B is 7 and P", func(c *api.Curve) { c.B = api.U256{50} }},
		{"B above P", func(c *api.Curve) { c.B = api.U256{7, 1} }},
		{"N 0", func(c *api.Curve) { c.N = nought }},
		{"N 1", func(c *api.Curve) { c.N = api.U256{1} }},
		{"A 0, B 0", func(c *api.Curve) { c.B, c.Base = nought, at(1, 1) }},
		{"A -3, B 2", func(c *api.Curve) { c.A, c.B, c.Base = api.U256{40}, api.U256{2}, at(1, 0) }},
		{"A -3, B -2", func(c *api.Curve) { c.A, c.B, c.Base = api.U256{40}, api.U256{41}, at(2, 0) }},
		{"Base far", func(c *api.Curve) { c.Base = farOne }},
		{"Base far, with its numbers", func(c *api.Curve) { c.Base.Far = true }},
		{"Base none of it", func(c *api.Curve) { c.Base.Y[0]++ }},
		{"Base 0", func(c *api.Curve) { c.Base = api.Point{} }},
		{"Base's X and P", func(c *api.Curve) { c.Base.X[0] += 43 }},
		{"Base's Y and P", func(c *api.Curve) { c.Base.Y[0] += 43 }},
		{"Base's X high", func(c *api.Curve) { c.Base.X[3] = 1 }},
		{"Base's Y high", func(c *api.Curve) { c.Base.Y[1] = 1 }},
	}
}

// P3.1
func TestCheck(t *testing.T) {
	for _, c := range append(smalls(), secp256k1(), p256(), widest()) {
		if e := curve.Check(c); e != api.OK {
			t.Errorf("%v: %d", c, e)
		}
	}
	for _, b := range breaks() {
		c := toy()
		b.do(&c)
		if e := curve.Check(c); e != api.ErrCurve {
			t.Errorf("%s: %d", b.what, e)
		}
	}
}

// P3.1: what is not asked, and the least and the greatest that may be.
func TestCheckMayBe(t *testing.T) {
	for _, b := range []change{
		{"N 2", func(c *api.Curve) { c.N = api.U256{2} }},
		{"N high only", func(c *api.Curve) { c.N = api.U256{0, 0, 0, 1} }},
		{"N high, and 1", func(c *api.Curve) { c.N = api.U256{1, 1} }},
		{"N above P", func(c *api.Curve) { c.N = highest }},
		{"P 7", func(c *api.Curve) { c.P, c.B, c.Base = api.U256{7}, api.U256{3}, at(1, 2) }},
		{"P 7, A and B 6", func(c *api.Curve) { c.P, c.A, c.B, c.Base = api.U256{7}, api.U256{6}, api.U256{6}, at(3, 3) }},
		{"P 15", func(c *api.Curve) { c.P, c.B, c.Base = api.U256{15}, api.U256{1}, at(0, 1) }},
		{"P high, and 3", func(c *api.Curve) { c.P, c.B, c.Base = api.U256{3, 1}, api.U256{1}, at(0, 1) }},
		{"P just above 2^192", func(c *api.Curve) { c.P, c.B, c.Base = api.U256{3, 0, 0, 1}, api.U256{1}, at(0, 1) }},
		{"A high", func(c *api.Curve) {
			c.P, c.A, c.B, c.Base = highest, api.U256{full - 1, full, full, full}, nought, at(0, 0)
		}},
		{"B high", func(c *api.Curve) {
			*c = secp256k1()
			c.B = api.U256{0xfffffffefffffc2e, full, full, full}
			c.Base = at(1, 0)
		}},
		{"B 0", func(c *api.Curve) { c.A, c.B, c.Base = api.U256{1}, nought, at(0, 0) }},
		{"A -3, B 3", func(c *api.Curve) { c.A, c.B, c.Base = api.U256{40}, api.U256{3}, at(1, 1) }},
		{"Base another one", func(c *api.Curve) { c.Base.Y[0] = 43 - c.Base.Y[0] }},
	} {
		c := toy()
		b.do(&c)
		if e := curve.Check(c); e != api.OK {
			t.Errorf("%s: %d", b.what, e)
		}
	}
}

// P3.1: all small numbers.
func TestCheckSmall(t *testing.T) {
	for p := range uint64(13) {
		for a := range p + 2 {
			for b := range p + 2 {
				may := p > 3 && p%4 == 3 && a < p && b < p && (4*a*a*a+27*b*b)%p != 0
				for x := range p + 2 {
					for y := range p + 2 {
						want := api.ErrCurve
						if may && x < p && y < p && y*y%p == (x*x*x+a*x+b)%p {
							want = api.OK
						}
						c := api.Curve{P: api.U256{p}, A: api.U256{a}, B: api.U256{b}, N: api.U256{2}, Base: at(x, y)}
						if e := curve.Check(c); e != want {
							t.Fatalf("%v: %d, want %d", c, e, want)
						}
					}
				}
			}
		}
	}
}

// P3.2
func TestOn(t *testing.T) {
	for _, c := range []struct {
		p    api.Point
		want api.Errno
	}{
		{at(2, 12), api.OK},
		{at(2, 31), api.OK},
		{farOne, api.OK},
		{at(1, 1), api.ErrCurve},
		{at(0, 0), api.ErrCurve},
		{at(12, 2), api.ErrCurve},
		{at(2+43, 12), api.ErrCurve},
		{at(2, 12+43), api.ErrCurve},
		{at(2+43, 12+43), api.ErrCurve},
		{api.Point{X: api.U256{2, 43}, Y: api.U256{12}}, api.ErrCurve},
		{api.Point{X: api.U256{2}, Y: api.U256{12, 0, 0, 43}}, api.ErrCurve},
		{api.Point{X: highest, Y: highest}, api.ErrCurve},
		{api.Point{X: api.U256{2}, Y: api.U256{12}, Far: true}, api.ErrCurve},
		{api.Point{X: api.U256{1}, Far: true}, api.ErrCurve},
		{api.Point{Y: api.U256{1}, Far: true}, api.ErrCurve},
		{api.Point{X: api.U256{0, 0, 0, 1}, Far: true}, api.ErrCurve},
		{api.Point{Y: api.U256{43}, Far: true}, api.ErrCurve},
	} {
		if e := curve.On(toy(), c.p); e != c.want {
			t.Errorf("%v: %d, want %d", c.p, e, c.want)
		}
	}
}

// P3.2: all points of small numbers.
func TestOnSmall(t *testing.T) {
	for _, c := range smalls() {
		m := modelOf(c)
		for x := range c.P[0] + 2 {
			for y := range c.P[0] + 2 {
				for _, p := range []api.Point{at(x, y), {X: api.U256{x}, Y: api.U256{y}, Far: true}} {
					want := api.ErrCurve
					if m.has(p) {
						want = api.OK
					}
					if e := curve.On(c, p); e != want {
						t.Fatalf("%v of %v: %d, want %d", p, c, e, want)
					}
				}
			}
		}
	}
}

// P3.2: wide numbers.
func TestOnWide(t *testing.T) {
	for _, c := range []api.Curve{secp256k1(), p256()} {
		m := modelOf(c)
		for _, p := range multiples(c) {
			less := p
			less.Y = fromBig(m.mod(new(big.Int).Neg(toBig(p.Y))))
			if e := curve.On(c, p); e != api.OK {
				t.Errorf("%v: %d", p, e)
			}
			if e := curve.On(c, less); e != api.OK {
				t.Errorf("%v: %d", less, e)
			}
			for i := range 4 {
				x, y := p, p
				x.X[i] ^= 1
				y.Y[i] ^= 1 << 63
				if ex, ey := curve.On(c, x), curve.On(c, y); ex != api.ErrCurve || ey != api.ErrCurve {
					t.Errorf("%v, %v: %d, %d", x, y, ex, ey)
				}
			}
		}
	}
	c := widest()
	if e := curve.On(c, at(0, 0)); e != api.OK {
		t.Errorf("%v: %d", c, e)
	}
	for _, p := range []api.Point{{X: highest}, {Y: highest}, {X: highest, Y: highest}} {
		if e := curve.On(c, p); e != api.ErrCurve {
			t.Errorf("%v: %d", p, e)
		}
	}
}

// multiples of a wide curve's base, by the model.
func multiples(c api.Curve) []api.Point {
	m, base := modelOf(c), toPair(c.Base)
	var l []api.Point
	for _, k := range []*big.Int{big.NewInt(1), big.NewInt(2), big.NewInt(3), toBig(api.U256{5, 5, 5, 5}), toBig(api.U256{c.N[0] - 2, c.N[1], c.N[2], c.N[3]})} {
		p, e := fromPair(m.mult(k, base))
		if e != api.OK {
			panic("no such point")
		}
		l = append(l, p)
	}
	return l
}

func checkAdd(t *testing.T, c api.Curve, p, q api.Point) api.Errno {
	t.Helper()
	want, e := fromPair(modelOf(c).sum(toPair(p), toPair(q)))
	if got, ge := curve.Add(c, p, q); got != want || ge != e {
		t.Fatalf("%v and %v of %v: %v %d, want %v %d", p, q, c, got, ge, want, e)
	}
	return e
}

// P3.3
func TestAdd(t *testing.T) {
	// By 15 there are points of one X whose Ys come to 0 by 3 or by 5 only.
	half := api.Curve{P: api.U256{15}, B: api.U256{1}, N: api.U256{2}, Base: at(0, 1)}
	for _, c := range []struct {
		c          api.Curve
		p, q, want api.Point
		e          api.Errno
	}{
		{toy(), at(2, 12), at(2, 12), at(7, 7), api.OK},
		{toy(), at(2, 12), at(7, 7), at(35, 21), api.OK},
		{toy(), at(7, 7), at(2, 12), at(35, 21), api.OK},
		{toy(), at(2, 12), farOne, at(2, 12), api.OK},
		{toy(), farOne, at(2, 12), at(2, 12), api.OK},
		{toy(), farOne, farOne, farOne, api.OK},
		{toy(), at(2, 12), at(2, 31), farOne, api.OK},
		{toy(), at(2, 31), at(2, 12), farOne, api.OK},
		{widest(), at(0, 0), at(0, 0), farOne, api.OK},
		{half, at(0, 1), at(0, 14), farOne, api.OK},
		{half, at(0, 1), at(0, 1), at(0, 14), api.OK},
		{half, at(0, 1), at(0, 4), api.Point{}, api.ErrCurve},
		{half, at(0, 4), at(0, 11), farOne, api.OK},
		{half, at(0, 1), at(5, 6), api.Point{}, api.ErrCurve},
		{half, at(5, 6), at(5, 6), api.Point{}, api.ErrCurve},
		{toy(), at(2, 13), at(2, 12), api.Point{}, api.ErrCurve},
		{toy(), at(2, 12), at(2, 13), api.Point{}, api.ErrCurve},
		{toy(), farOne, at(2, 13), api.Point{}, api.ErrCurve},
		{toy(), at(2, 13), farOne, api.Point{}, api.ErrCurve},
		{toy(), at(45, 12), farOne, api.Point{}, api.ErrCurve},
		{toy(), farOne, at(2, 55), api.Point{}, api.ErrCurve},
		{toy(), api.Point{X: api.U256{2}, Far: true}, at(2, 12), api.Point{}, api.ErrCurve},
		{toy(), at(2, 12), api.Point{Y: api.U256{2}, Far: true}, api.Point{}, api.ErrCurve},
	} {
		if got, e := curve.Add(c.c, c.p, c.q); got != c.want || e != c.e {
			t.Errorf("%v and %v of %v: %v %d, want %v %d", c.p, c.q, c.c, got, e, c.want, c.e)
		}
	}
}

// P3.3: all points of small curves, among them those that have no sum.
func TestAddSmall(t *testing.T) {
	refused := 0
	for _, c := range smalls() {
		all := points(c)
		for _, p := range all {
			for _, q := range all {
				if checkAdd(t, c, p, q) != api.OK {
					refused++
				}
			}
		}
	}
	if refused == 0 {
		t.Error("none without a sum was tried")
	}
}

// P3.3: wide points; the library's sums are not made by the model.
func TestAddWide(t *testing.T) {
	for _, c := range []api.Curve{secp256k1(), p256()} {
		l := append(multiples(c), farOne)
		for _, p := range l {
			for _, q := range l {
				checkAdd(t, c, p, q)
			}
		}
	}
	c, lib := p256(), elliptic.P256()
	l := multiples(c)
	for i, p := range l {
		q := l[(i+1)%len(l)]
		x, y := lib.Add(toBig(p.X), toBig(p.Y), toBig(q.X), toBig(q.Y))
		want := api.Point{X: fromBig(x), Y: fromBig(y)}
		if want.X == nought {
			want = farOne
		}
		if got, e := curve.Add(c, p, q); got != want || e != api.OK {
			t.Errorf("%v and %v: %v %d, want %v", p, q, got, e, want)
		}
	}
}

// byWidest: curves by the greatest modulus through two points, with wide numbers.
func byWidest() (c api.Curve, p, q api.Point) {
	m := model{p: toBig(highest)}
	x1, y1 := toBig(api.U256{3, 1, 4, 1 << 63}), toBig(api.U256{1, full, 5, 1 << 62})
	x2, y2 := toBig(api.U256{2, 7, 1, 8}), toBig(api.U256{full, full, full, full >> 1})
	cube := big.NewInt(3)
	left := func(x, y *big.Int) *big.Int {
		r := new(big.Int).Mul(y, y)
		return r.Sub(r, new(big.Int).Exp(x, cube, m.p))
	}
	// A and B are where two lines meet.
	over := new(big.Int).ModInverse(m.mod(new(big.Int).Sub(x2, x1)), m.p)
	if over == nil {
		panic("no such curve")
	}
	m.a = m.mod(over.Mul(over, new(big.Int).Sub(left(x2, y2), left(x1, y1))))
	m.b = m.mod(new(big.Int).Sub(left(x1, y1), new(big.Int).Mul(m.a, x1)))
	p, _ = fromPair(&pair{x1, y1}, true)
	q, _ = fromPair(&pair{x2, y2}, true)
	return api.Curve{P: highest, A: fromBig(m.a), B: fromBig(m.b), N: api.U256{2}, Base: p}, p, q
}

// P3.3, P3.4: by a wide modulus that is no prime.
func TestByWidest(t *testing.T) {
	c, p, q := byWidest()
	if e := curve.Check(c); e != api.OK {
		t.Fatalf("%v: %d", c, e)
	}
	if checkAdd(t, c, p, q) != api.OK {
		t.Error("there is no sum")
	}
	checkAdd(t, c, p, p)
	checkAdd(t, c, q, q)
	for k := range uint64(20) {
		checkMult(t, c, api.U256{k}, p)
	}
	checkMult(t, c, highest, q)
}

func checkMult(t *testing.T, c api.Curve, k api.U256, p api.Point) api.Errno {
	t.Helper()
	want, e := fromPair(modelOf(c).mult(toBig(k), toPair(p)))
	if got, ge := curve.Mult(c, k, p); got != want || ge != e {
		t.Fatalf("%v times %v of %v: %v %d, want %v %d", k, p, c, got, ge, want, e)
	}
	return e
}

// P3.4
func TestMult(t *testing.T) {
	half := api.Curve{P: api.U256{15}, B: api.U256{1}, N: api.U256{2}, Base: at(0, 1)}
	for _, c := range []struct {
		c    api.Curve
		k    api.U256
		p    api.Point
		want api.Point
		e    api.Errno
	}{
		{toy(), nought, at(2, 12), farOne, api.OK},
		{toy(), api.U256{1}, at(2, 12), at(2, 12), api.OK},
		{toy(), api.U256{2}, at(2, 12), at(7, 7), api.OK},
		{toy(), api.U256{3}, at(2, 12), at(35, 21), api.OK},
		{toy(), api.U256{30}, at(2, 12), at(2, 31), api.OK},
		{toy(), api.U256{31}, at(2, 12), farOne, api.OK},
		{toy(), api.U256{32}, at(2, 12), at(2, 12), api.OK},
		{toy(), api.U256{0, 1}, at(2, 12), at(38, 22), api.OK}, // 16 times, by 31
		{toy(), highest, farOne, farOne, api.OK},
		{toy(), nought, farOne, farOne, api.OK},
		{half, api.U256{1}, at(5, 6), at(5, 6), api.OK},
		{half, api.U256{2}, at(5, 6), api.Point{}, api.ErrCurve},
		{half, nought, at(5, 6), farOne, api.OK},
		{toy(), nought, at(2, 13), api.Point{}, api.ErrCurve},
		{toy(), api.U256{1}, at(2, 13), api.Point{}, api.ErrCurve},
		{toy(), highest, at(45, 12), api.Point{}, api.ErrCurve},
		{toy(), api.U256{2}, api.Point{X: api.U256{2}, Y: api.U256{12}, Far: true}, api.Point{}, api.ErrCurve},
	} {
		if got, e := curve.Mult(c.c, c.k, c.p); got != c.want || e != c.e {
			t.Errorf("%v times %v of %v: %v %d, want %v %d", c.k, c.p, c.c, got, e, c.want, c.e)
		}
	}
}

// P3.4: all points of small curves; a sum on the way may be missing.
func TestMultSmall(t *testing.T) {
	refused := 0
	for _, c := range smalls() {
		for _, p := range points(c) {
			for k := range uint64(40) {
				if checkMult(t, c, api.U256{k}, p) != api.OK {
					refused++
				}
			}
		}
	}
	if refused == 0 {
		t.Error("none without a sum was tried")
	}
}

// P3.4: of a small curve each bit alone, and with those below it, so often as what is
// left by 31 says.
func TestMultBits(t *testing.T) {
	c := toy()
	for i := range 256 {
		var k api.U256
		k[i/64] = 1 << (i % 64)
		below := fromBig(new(big.Int).Sub(toBig(k), big.NewInt(1)))
		for _, k := range []api.U256{k, below} {
			left := new(big.Int).Mod(toBig(k), big.NewInt(31))
			want, _ := fromPair(modelOf(c).mult(left, toPair(c.Base)))
			if got, e := curve.Mult(c, k, c.Base); got != want || e != api.OK {
				t.Errorf("%v times: %v %d, want %v", k, got, e, want)
			}
		}
	}
}

// P3.4: multiples that are known everywhere.
func TestMultKnown(t *testing.T) {
	c := secp256k1()
	less := c.Base
	less.Y = fromBig(new(big.Int).Sub(toBig(c.P), toBig(c.Base.Y)))
	n := func(more int64) api.U256 { return fromBig(new(big.Int).Add(toBig(c.N), big.NewInt(more))) }
	for _, x := range []struct {
		k    api.U256
		want api.Point
	}{
		{api.U256{1}, c.Base},
		{api.U256{2}, api.Point{
			X: hex("C6047F9441ED7D6D3045406E95C07CD85C778E4B8CEF3CA7ABAC09B95C709EE5"),
			Y: hex("1AE168FEA63DC339A3C58419466CEAEEF7F632653266D0E1236431A950CFE52A"),
		}},
		{api.U256{3}, api.Point{
			X: hex("F9308A019258C31049344F85F89D5229B531C845836F99B08601F113BCE036F9"),
			Y: hex("388F7B0F632DE8140FE337E62A37F3566500A99934C2231B6CB9FD7584B8E672"),
		}},
		{api.U256{112233445566778899}, api.Point{
			X: hex("A90CC3D3F3E146DAADFC74CA1372207CB4B725AE708CEF713A98EDD73D99EF29"),
			Y: hex("5A79D6B289610C68BC3B47F3D72F9788A26A06868B4D8E433E1E2AD76FB7DC76"),
		}},
		{n(-1), less},
		{n(0), farOne},
		{n(1), c.Base},
	} {
		if got, e := curve.Mult(c, x.k, c.Base); got != x.want || e != api.OK {
			t.Errorf("%v times: %v %d, want %v", x.k, got, e, x.want)
		}
	}
}

// P3.4: the library's multiples.
func TestMultWide(t *testing.T) {
	c, lib := p256(), elliptic.P256()
	l := multiples(c)
	for i, k := range []api.U256{
		{1}, {2}, {full}, {0, 1}, {0, 0, 1}, {0, 0, 0, 1}, {0, 0, 0, 1 << 63}, {full, full, full, full >> 1},
		{1, 2, 3, 4}, {0x9e3779b97f4a7c15, 0xbf58476d1ce4e5b9, 0x94d049bb133111eb, 0xd1342543de82ef95}, c.N, highest,
	} {
		p := l[i%len(l)]
		x, y := lib.ScalarMult(toBig(p.X), toBig(p.Y), toBig(k).FillBytes(make([]byte, 32)))
		want := api.Point{X: fromBig(x), Y: fromBig(y)}
		if k == c.N {
			want = farOne
		}
		if got, e := curve.Mult(c, k, p); got != want || e != api.OK {
			t.Errorf("%v times %v: %v %d, want %v", k, p, got, e, want)
		}
	}
}

// P3.5
func TestLift(t *testing.T) {
	// By 15 the power of 6 is 6, that of 10 is 10, and that of 4, whose roots are 2, 7, 8 and 13, is 1.
	half := api.Curve{P: api.U256{15}, B: api.U256{4}, N: api.U256{2}, Base: at(0, 2)}
	for _, c := range []struct {
		c    api.Curve
		x    api.U256
		odd  bool
		want api.Point
		e    api.Errno
	}{
		{toy(), api.U256{2}, true, at(2, 31), api.OK},
		{toy(), api.U256{2}, false, at(2, 12), api.OK},
		{toy(), api.U256{7}, true, at(7, 7), api.OK},
		{toy(), api.U256{7}, false, at(7, 36), api.OK},
		{toy(), api.U256{1}, true, api.Point{}, api.ErrCurve},
		{toy(), api.U256{1}, false, api.Point{}, api.ErrCurve},
		{toy(), api.U256{43}, true, api.Point{}, api.ErrRange},
		{toy(), api.U256{45}, false, api.Point{}, api.ErrRange},
		{toy(), api.U256{2, 1}, false, api.Point{}, api.ErrRange},
		{toy(), highest, true, api.Point{}, api.ErrRange},
		{half, nought, true, api.Point{}, api.ErrCurve},
		{half, nought, false, api.Point{}, api.ErrCurve},
		{half, api.U256{8}, false, at(8, 6), api.OK},
		{half, api.U256{8}, true, at(8, 9), api.OK},
		{half, api.U256{6}, false, at(6, 10), api.OK},
		{half, api.U256{6}, true, at(6, 5), api.OK},
		{widest(), nought, false, at(0, 0), api.OK},
		{widest(), nought, true, api.Point{}, api.ErrCurve},
		{widest(), highest, false, api.Point{}, api.ErrRange},
	} {
		if got, e := curve.Lift(c.c, c.x, c.odd); got != c.want || e != c.e {
			t.Errorf("%v %v of %v: %v %d, want %v %d", c.x, c.odd, c.c, got, e, c.want, c.e)
		}
	}
}

func checkLift(t *testing.T, c api.Curve, x api.U256, odd bool) {
	t.Helper()
	want, e := fromPair(modelOf(c).lift(toBig(x), odd))
	if got, ge := curve.Lift(c, x, odd); got != want || ge != e {
		t.Fatalf("%v %v of %v: %v %d, want %v %d", x, odd, c, got, ge, want, e)
	}
}

// P3.5: all numbers of small curves.
func TestLiftSmall(t *testing.T) {
	for _, c := range smalls() {
		for x := range c.P[0] {
			checkLift(t, c, api.U256{x}, true)
			checkLift(t, c, api.U256{x}, false)
		}
	}
}

// P3.5: by a prime each point is found by its X; on this curve one has Y 0.
func TestLiftBack(t *testing.T) {
	c := api.Curve{P: api.U256{43}, A: api.U256{2}, B: api.U256{3}, N: api.U256{2}, Base: at(42, 0)}
	for _, c := range []api.Curve{c, toy()} {
		for _, p := range points(c)[1:] {
			if got, e := curve.Lift(c, p.X, p.Y[0]%2 == 1); got != p || e != api.OK {
				t.Errorf("%v: %v %d", p, got, e)
			}
		}
	}
	if got, e := curve.Lift(c, c.Base.X, true); got != (api.Point{}) || e != api.ErrCurve {
		t.Errorf("%v %d", got, e)
	}
}

// P3.5: wide numbers.
func TestLiftWide(t *testing.T) {
	for _, c := range []api.Curve{secp256k1(), p256(), widest()} {
		for _, x := range []api.U256{{}, {1}, {2}, {3}, {4}, {5}, {0, 1}, {0, 0, 0, 1 << 63}, {full, full, full, full >> 1}} {
			checkLift(t, c, x, true)
			checkLift(t, c, x, false)
		}
	}
	for _, c := range []api.Curve{secp256k1(), p256()} {
		for _, p := range multiples(c) {
			if got, e := curve.Lift(c, p.X, p.Y[0]%2 == 1); got != p || e != api.OK {
				t.Errorf("%v: %v %d", p, got, e)
			}
			less := p
			less.Y = fromBig(new(big.Int).Sub(toBig(c.P), toBig(p.Y)))
			if got, e := curve.Lift(c, p.X, p.Y[0]%2 == 0); got != less || e != api.OK {
				t.Errorf("%v: %v %d", less, got, e)
			}
		}
		if got, e := curve.Lift(c, c.P, true); got != (api.Point{}) || e != api.ErrRange {
			t.Errorf("P: %v %d", got, e)
		}
	}
}

// P3.5: a quarter of the greatest modulus and 1, which together are no number of 256 bits:
// 274177 divides it, and by that there is a number whose seventh power is 1.
func TestLiftWidest(t *testing.T) {
	m := toBig(highest)
	factor := big.NewInt(274177)
	seventh := new(big.Int).Exp(big.NewInt(5), big.NewInt(274176/7), factor)
	if seventh.Cmp(big.NewInt(1)) == 0 {
		t.Fatal("it is 1 itself")
	}
	// It leaves 1 by all other primes that divide the modulus.
	rest := new(big.Int).Div(m, factor)
	step := new(big.Int).Mul(rest, new(big.Int).ModInverse(rest, factor))
	b := new(big.Int).Sub(seventh, big.NewInt(1))
	b.Mul(b, step).Add(b, big.NewInt(1)).Mod(b, m)
	y := new(big.Int).Exp(b, new(big.Int).Lsh(big.NewInt(1), 254), m)
	c := api.Curve{P: highest, B: fromBig(b), N: api.U256{2}, Base: api.Point{Y: fromBig(y)}}
	if y.Cmp(big.NewInt(1)) == 0 || curve.Check(c) != api.OK {
		t.Fatal("there is no such curve")
	}
	less := api.Point{Y: fromBig(new(big.Int).Sub(m, y))}
	odd := y.Bit(0) == 1
	if got, e := curve.Lift(c, nought, odd); got != c.Base || e != api.OK {
		t.Errorf("%v %d, want %v", got, e, c.Base)
	}
	if got, e := curve.Lift(c, nought, !odd); got != less || e != api.OK {
		t.Errorf("%v %d, want %v", got, e, less)
	}
}

// P3.2 to P3.5: a curve that may not be has nothing, not even its base or the far point.
func TestNoCurve(t *testing.T) {
	for _, b := range breaks() {
		c := toy()
		b.do(&c)
		for _, p := range []api.Point{c.Base, farOne, {}, at(2, 12), {X: highest, Y: highest}} {
			if e := curve.On(c, p); e != api.ErrCurve {
				t.Errorf("%s: On %v: %d", b.what, p, e)
			}
			for _, q := range []api.Point{c.Base, farOne, at(7, 7)} {
				if got, e := curve.Add(c, p, q); got != (api.Point{}) || e != api.ErrCurve {
					t.Errorf("%s: Add %v, %v: %v %d", b.what, p, q, got, e)
				}
			}
			for _, k := range []api.U256{{}, {1}, {2}, highest} {
				if got, e := curve.Mult(c, k, p); got != (api.Point{}) || e != api.ErrCurve {
					t.Errorf("%s: Mult %v, %v: %v %d", b.what, k, p, got, e)
				}
			}
			for _, odd := range []bool{false, true} {
				if got, e := curve.Lift(c, p.X, odd); got != (api.Point{}) || e != api.ErrCurve {
					t.Errorf("%s: Lift %v: %v %d", b.what, p.X, got, e)
				}
			}
		}
	}
}

func ExampleMult() {
	c := api.Curve{P: api.U256{43}, B: api.U256{7}, N: api.U256{31}, Base: api.Point{X: api.U256{2}, Y: api.U256{12}}}
	p, e := curve.Mult(c, api.U256{31}, c.Base)
	fmt.Println(p.Far, e == api.OK)
	// Output: true true
}
