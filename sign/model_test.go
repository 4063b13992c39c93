package sign_test

import (
	"crypto/elliptic"
	"math/big"

	"bascule/api"
	"bascule/keccak"
)

const full = ^uint64(0)

var (
	nought  = api.U256{}
	one     = api.U256{1}
	two     = api.U256{2}
	highest = api.U256{full, full, full, full}
	farOne  = api.Point{Far: true}
)

// toBig and fromBig go part by part, so that they lean on nothing of the program.
func toBig(a api.U256) *big.Int {
	n := new(big.Int)
	for i := len(a) - 1; i >= 0; i-- {
		n.Lsh(n, 64).Or(n, new(big.Int).SetUint64(a[i]))
	}
	return n
}

func fromBig(n *big.Int) api.U256 {
	if n.Sign() < 0 || n.BitLen() > 256 {
		panic("no number of 256 bits: " + n.String())
	}
	var a api.U256
	for i := range a {
		a[i] = new(big.Int).Rsh(n, uint(64*i)).Uint64()
	}
	return a
}

func hex(s string) api.U256 {
	n, ok := new(big.Int).SetString(s, 16)
	if !ok {
		panic("no digits: " + s)
	}
	return fromBig(n)
}

// bytesOf a number that is not below 0.
func bytesOf(n *big.Int) (b [32]byte) {
	n.FillBytes(b[:])
	return b
}

// sumOf a small number: one that has it as its number.
func sumOf(n uint64) [32]byte { return bytesOf(new(big.Int).SetUint64(n)) }

func at(x, y uint64) api.Point { return api.Point{X: api.U256{x}, Y: api.U256{y}} }

func toy() api.Curve {
	return api.Curve{P: api.U256{43}, B: api.U256{7}, N: api.U256{31}, Base: at(2, 12)}
}

func secp256k1() api.Curve {
	return api.Curve{
		P: api.U256{0xfffffffefffffc2f, full, full, full},
		B: api.U256{7},
		N: api.U256{0xbfd25e8cd0364141, 0xbaaedce6af48a03b, full - 1, full},
		Base: api.Point{
			X: hex("79BE667EF9DCBBAC55A06295CE870B07029BFCDB2DCE28D959F2815B16F81798"),
			Y: hex("483ADA7726A3C4655DA4FBFC0E1108A8FD17B448A68554199C47D08FFB10D4B8"),
		},
	}
}

// p256 is a curve of which the library knows all by itself.
func p256() api.Curve {
	c := elliptic.P256().Params()
	return api.Curve{
		P: fromBig(c.P), A: fromBig(new(big.Int).Sub(c.P, big.NewInt(3))), B: fromBig(c.B),
		N: fromBig(c.N), Base: api.Point{X: fromBig(c.Gx), Y: fromBig(c.Gy)},
	}
}

// widest: by the greatest modulus, which is no prime.
func widest() api.Curve {
	return api.Curve{P: highest, A: one, N: highest}
}

// half: by 15. What is divided by a number that 3 or 5 divides can't be made.
func half() api.Curve {
	return api.Curve{P: api.U256{15}, B: one, N: api.U256{7}, Base: at(0, 1)}
}

// sparse: a curve on which, of what comes of the numbers from 2 to 16, each X leaves 0
// or 4 by N: where R 4 makes S 0, something comes of numbers alone that leave 1.
func sparse() api.Curve {
	return api.Curve{P: api.U256{827}, A: api.U256{199}, B: api.U256{352}, N: api.U256{17}, Base: at(188, 464)}
}

// noCurves: some that may not be.
func noCurves() []api.Curve {
	l := []api.Curve{{}, {P: highest, A: highest, B: highest, N: highest, Base: api.Point{X: highest, Y: highest}}}
	for _, do := range []func(c *api.Curve){
		func(c *api.Curve) { c.N = nought },
		func(c *api.Curve) { c.N = one },
		func(c *api.Curve) { c.P = api.U256{42} },
		func(c *api.Curve) { c.Base = farOne },
		func(c *api.Curve) { c.Base.Y[0]++ },
		func(c *api.Curve) { c.B = api.U256{50} },
	} {
		c := toy()
		do(&c)
		l = append(l, c)
	}
	return l
}

// model reckons with signatures as the chapters word it; nil is the far point.
type model struct {
	p, a, b, n *big.Int
	base       *pair
}

type pair struct{ x, y *big.Int }

func modelOf(c api.Curve) model {
	return model{toBig(c.P), toBig(c.A), toBig(c.B), toBig(c.N), toPair(c.Base)}
}

func toPair(p api.Point) *pair {
	if p.Far {
		return nil
	}
	return &pair{toBig(p.X), toBig(p.Y)}
}

func fromPair(p *pair) api.Point {
	if p == nil {
		return farOne
	}
	return api.Point{X: fromBig(p.x), Y: fromBig(p.y)}
}

func (m model) mod(n *big.Int) *big.Int { return new(big.Int).Mod(n, m.p) }

func (m model) right(x *big.Int) *big.Int {
	r := new(big.Int).Mul(x, x)
	r.Add(r, m.a).Mul(r, x)
	return m.mod(r.Add(r, m.b))
}

func (m model) has(p api.Point) bool {
	if p.Far {
		return p == farOne
	}
	x, y := toBig(p.X), toBig(p.Y)
	return x.Cmp(m.p) < 0 && y.Cmp(m.p) < 0 && m.mod(new(big.Int).Mul(y, y)).Cmp(m.right(x)) == 0
}

// add two points, and whether they can be.
func (m model) add(p, q *pair) (*pair, bool) {
	if p == nil {
		return q, true
	}
	if q == nil {
		return p, true
	}
	up, along := new(big.Int).Sub(q.y, p.y), new(big.Int).Sub(q.x, p.x)
	if along.Sign() == 0 && m.mod(new(big.Int).Add(p.y, q.y)).Sign() == 0 {
		return nil, true
	}
	if along.Sign() == 0 && up.Sign() == 0 {
		up = new(big.Int).Mul(p.x, p.x)
		up.Mul(up, big.NewInt(3)).Add(up, m.a)
		along = new(big.Int).Lsh(p.y, 1)
	}
	over := new(big.Int).ModInverse(m.mod(along), m.p)
	if over == nil {
		return nil, false
	}
	s := up.Mul(up, over)
	x := new(big.Int).Mul(s, s)
	x = m.mod(x.Sub(x, p.x).Sub(x, q.x))
	y := new(big.Int).Sub(p.x, x)
	return &pair{x, m.mod(y.Mul(y, s).Sub(y, p.y))}, true
}

func (m model) mult(k *big.Int, p *pair) (*pair, bool) {
	var s *pair
	ok := true
	for i := k.BitLen() - 1; i >= 0 && ok; i-- {
		s, ok = m.add(s, s)
		if ok && k.Bit(i) == 1 {
			s, ok = m.add(s, p)
		}
	}
	return s, ok
}

// both Base k times and a point l times, added.
func (m model) both(k *big.Int, p *pair, l *big.Int) (*pair, bool) {
	a, ok := m.mult(k, m.base)
	if !ok {
		return nil, false
	}
	b, ok := m.mult(l, p)
	if !ok {
		return nil, false
	}
	return m.add(a, b)
}

// lift, and whether there is a point.
func (m model) lift(x *big.Int, odd bool) (*pair, bool) {
	quarter := new(big.Int).Add(m.p, big.NewInt(1))
	y := new(big.Int).Exp(m.right(x), quarter.Rsh(quarter, 2), m.p)
	for range 2 {
		if (y.Bit(0) == 1) == odd && m.mod(new(big.Int).Mul(y, y)).Cmp(m.right(x)) == 0 {
			return &pair{x, y}, x.Cmp(m.p) < 0
		}
		y = m.mod(new(big.Int).Neg(y))
	}
	return nil, false
}

// number that is tried for the i-th time.
func (m model) number(d api.U256, h [32]byte, i int) *big.Int {
	if i >= 256 {
		return big.NewInt(int64(i - 255))
	}
	secret := bytesOf(toBig(d))
	sum := keccak.Sum(append(append(secret[:], h[:]...), byte(i)))
	return new(big.Int).SetBytes(sum[:])
}

// sign: the signature, and what came of each try, counted in met.
func (m model) sign(d api.U256, h [32]byte, met map[string]int) (api.Sign, api.Errno) {
	for i := range 256 + 16 {
		s, what := m.signWith(new(big.Int).Mod(m.number(d, h, i), m.n), toBig(d), h)
		met[what]++
		switch what {
		case "as it is", "turned":
			return s, api.OK
		case "no point", "no inverse":
			return api.Sign{}, api.ErrCurve
		}
	}
	met["none"]++
	return api.Sign{}, api.ErrNone
}

func (m model) signWith(k, d *big.Int, h [32]byte) (api.Sign, string) {
	if k.Sign() == 0 {
		return api.Sign{}, "K 0"
	}
	p, ok := m.mult(k, m.base)
	if !ok {
		return api.Sign{}, "no point"
	}
	if p == nil {
		return api.Sign{}, "far"
	}
	r := new(big.Int).Mod(p.x, m.n)
	if r.Sign() == 0 {
		return api.Sign{}, "R 0"
	}
	over := new(big.Int).ModInverse(k, m.n)
	if over == nil {
		return api.Sign{}, "no inverse"
	}
	s := new(big.Int).Mul(r, d)
	s.Add(s, new(big.Int).SetBytes(h[:])).Mul(s, over).Mod(s, m.n)
	if s.Sign() == 0 {
		return api.Sign{}, "S 0"
	}
	odd := int(p.y.Bit(0))
	if p.x.Cmp(m.n) >= 0 {
		odd += 2
	}
	if other := new(big.Int).Sub(m.n, s); s.Cmp(other) > 0 {
		return api.Sign{R: fromBig(r), S: fromBig(other), Odd: odd ^ 1}, "turned"
	}
	return api.Sign{R: fromBig(r), S: fromBig(s), Odd: odd}, "as it is"
}

func (m model) mayBe(s api.Sign) bool {
	a, b := toBig(s.R), toBig(s.S)
	return a.Sign() > 0 && a.Cmp(m.n) < 0 && b.Sign() > 0 && new(big.Int).Lsh(b, 1).Cmp(m.n) <= 0 &&
		s.Odd >= 0 && s.Odd < 4
}

func (m model) check(q api.Point, h [32]byte, s api.Sign) api.Errno {
	if !m.has(q) {
		return api.ErrCurve
	}
	if q.Far || !m.mayBe(s) {
		return api.ErrSign
	}
	over := new(big.Int).ModInverse(toBig(s.S), m.n)
	if over == nil {
		return api.ErrCurve
	}
	k := new(big.Int).SetBytes(h[:])
	l := new(big.Int).Mul(toBig(s.R), over)
	p, ok := m.both(k.Mul(k, over).Mod(k, m.n), toPair(q), l.Mod(l, m.n))
	if !ok {
		return api.ErrCurve
	}
	if p == nil || new(big.Int).Mod(p.x, m.n).Cmp(toBig(s.R)) != 0 {
		return api.ErrSign
	}
	return api.OK
}

func (m model) recover(h [32]byte, s api.Sign) (api.Point, api.Errno) {
	if !m.mayBe(s) {
		return api.Point{}, api.ErrSign
	}
	x := toBig(s.R)
	if s.Odd > 1 {
		x.Add(x, m.n)
	}
	p, ok := m.lift(x, s.Odd%2 == 1)
	if !ok {
		return api.Point{}, api.ErrSign
	}
	over := new(big.Int).ModInverse(toBig(s.R), m.n)
	if over == nil {
		return api.Point{}, api.ErrCurve
	}
	k := new(big.Int).SetBytes(h[:])
	l := new(big.Int).Mul(toBig(s.S), over)
	q, ok := m.both(k.Mul(k, over).Neg(k).Mod(k, m.n), p, l.Mod(l, m.n))
	if !ok {
		return api.Point{}, api.ErrCurve
	}
	if q == nil {
		return api.Point{}, api.ErrSign
	}
	return fromPair(q), api.OK
}

// points: all of a small curve.
func points(c api.Curve) []api.Point {
	m := modelOf(c)
	l := []api.Point{farOne}
	for x := range c.P[0] {
		for y := range c.P[0] {
			if p := at(x, y); m.has(p) {
				l = append(l, p)
			}
		}
	}
	return l
}

// smalls: small curves that may be, by primes and by others, whose N is the number of
// all points, or another one.
func smalls() []api.Curve {
	l := []api.Curve{toy(), half(), sparse()}
	for _, p := range []uint64{7, 11, 15, 23, 35, 43} {
		for _, ab := range [][2]uint64{{0, 1}, {1, 0}, {p - 3, 1}, {p / 2, p - 2}} {
			c := api.Curve{P: api.U256{p}, A: api.U256{ab[0]}, B: api.U256{ab[1]}}
			all := points(c)
			flat := (4*ab[0]*ab[0]*ab[0] + 27*ab[1]*ab[1]) % p
			if len(all) == 1 || flat == 0 {
				continue
			}
			for i, n := range []uint64{uint64(len(all)), 2, 12} {
				c.N = api.U256{n}
				c.Base = all[1+(len(all)*i/3)%(len(all)-1)]
				l = append(l, c)
			}
		}
	}
	return l
}

// hashes: sums at both ends, and others.
func hashes() [][32]byte {
	l := [][32]byte{{}, sumOf(1), sumOf(31), {1}, bytesOf(toBig(highest))}
	for i := range byte(3) {
		l = append(l, keccak.Sum([]byte{i}))
	}
	return l
}
