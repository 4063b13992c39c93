package field_test

import (
	"fmt"
	"math/big"
	"testing"

	"bascule/api"
	"bascule/field"
	"bascule/wide"
)

const full = ^uint64(0)

var (
	nought  = api.U256{}
	one     = api.U256{1}
	two     = api.U256{2}
	highest = api.U256{full, full, full, full}
	// prime and order are those of secp256k1.
	prime = api.U256{0xfffffffefffffc2f, full, full, full}
	order = api.U256{0xbfd25e8cd0364141, 0xbaaedce6af48a03b, full - 1, full}
)

// toBig and fromBig go part by part, so that they lean on nothing of the program.
func toBig(a api.U256) *big.Int {
	n := new(big.Int)
	for i := len(a) - 1; i >= 0; i-- {
		n.Lsh(n, 64).Or(n, new(big.Int).SetUint64(a[i]))
	}
	return n
}

func fromBig(n *big.Int) api.U256 {
	if n.Sign() < 0 || n.BitLen() > 256 {
		panic("no number of 256 bits: " + n.String())
	}
	var a api.U256
	for i := range a {
		a[i] = new(big.Int).Rsh(n, uint(64*i)).Uint64()
	}
	return a
}

// edges: all numbers whose parts are some of those at which carries begin and end.
func edges() []api.U256 {
	parts := [4]uint64{0, 1, 1 << 63, full}
	var l []api.U256
	for i := range 256 {
		l = append(l, api.U256{parts[i%4], parts[i/4%4], parts[i/16%4], parts[i/64]})
	}
	return l
}

// spread: numbers of all lengths, the same ones in every run.
func spread(n int) []api.U256 {
	state := uint64(0)
	next := func() uint64 {
		state += 0x9e3779b97f4a7c15
		x := state
		x = (x ^ x>>30) * 0xbf58476d1ce4e5b9
		x = (x ^ x>>27) * 0x94d049bb133111eb
		return x ^ x>>31
	}
	l := make([]api.U256, n)
	for i := range l {
		for j := range 1 + next()%4 {
			l[i][j] = next() >> (next() % 64)
		}
	}
	return l
}

// moduli are edges, powers of two and their neighbours, primes, and others, none of them 0.
func moduli() []api.U256 {
	l := []api.U256{prime, order, {10}, {97}, {full - 58}}
	for i := range 256 {
		var p api.U256
		p[i/64] = 1 << (i % 64)
		before, _ := wide.Sub(p, one)
		after, _ := wide.Add(p, one)
		l = append(l, before, p, after)
	}
	l = append(l, edges()...)
	l = append(l, spread(500)...)
	var r []api.U256
	for _, m := range l {
		if m != nought {
			r = append(r, m)
		}
	}
	return r
}

// below: numbers below a modulus: the least and the greatest ones, some amid, and
// what is left of each of l.
func below(m api.U256, l []api.U256) []api.U256 {
	n := toBig(m)
	r := []api.U256{fromBig(new(big.Int).Rsh(n, 1))}
	for _, i := range []int64{0, 1, 2, 3, -1, -2, -3} {
		r = append(r, fromBig(new(big.Int).Mod(big.NewInt(i), n)))
	}
	for _, a := range l {
		r = append(r, fromBig(new(big.Int).Mod(toBig(a), n)))
	}
	return r
}

// few of a long list, evenly taken, others for each start.
func few(l []api.U256, start int) []api.U256 {
	var r []api.U256
	for i := start % 127; i < len(l); i += 127 {
		r = append(r, l[i])
	}
	return r
}

type call func(a, b, m api.U256) (api.U256, api.Errno)

// twos are the calls with two numbers, and what each must answer.
var twos = []struct {
	name string
	do   call
	want func(r, a, b *big.Int) *big.Int
}{
	{"Add", field.Add, (*big.Int).Add},
	{"Sub", field.Sub, (*big.Int).Sub},
	{"Mul", field.Mul, (*big.Int).Mul},
}

func checkTwos(t *testing.T, a, b, m api.U256) {
	t.Helper()
	for _, c := range twos {
		n := c.want(new(big.Int), toBig(a), toBig(b))
		want := fromBig(n.Mod(n, toBig(m)))
		if got, e := c.do(a, b, m); got != want || e != api.OK {
			t.Fatalf("%s(%v, %v, %v): %v %d, want %v", c.name, a, b, m, got, e, want)
		}
	}
}

// P2.1
func TestTwos(t *testing.T) {
	for _, c := range []struct {
		name          string
		do            call
		a, b, m, want api.U256
	}{
		{"Add", field.Add, api.U256{5}, api.U256{4}, api.U256{7}, two},
		{"Add", field.Add, api.U256{3}, api.U256{4}, api.U256{7}, nought},
		{"Add", field.Add, api.U256{3}, api.U256{3}, api.U256{7}, api.U256{6}},
		{"Add", field.Add, nought, nought, one, nought},
		{"Add", field.Add, api.U256{full - 1, full, full, full}, one, highest, nought},
		{"Add", field.Add, api.U256{0, 0, 0, 1 << 63}, api.U256{0, 0, 0, 1 << 63}, highest, one},
		{"Sub", field.Sub, api.U256{2}, api.U256{5}, api.U256{7}, api.U256{4}},
		{"Sub", field.Sub, api.U256{5}, api.U256{2}, api.U256{7}, api.U256{3}},
		{"Sub", field.Sub, api.U256{5}, api.U256{5}, api.U256{7}, nought},
		{"Sub", field.Sub, nought, one, highest, api.U256{full - 1, full, full, full}},
		{"Sub", field.Sub, nought, nought, one, nought},
		{"Mul", field.Mul, api.U256{5}, api.U256{5}, api.U256{7}, api.U256{4}},
		{"Mul", field.Mul, api.U256{2}, api.U256{3}, api.U256{6}, nought},
		{"Mul", field.Mul, nought, nought, one, nought},
		{"Mul", field.Mul, api.U256{0, 0, 1}, api.U256{0, 0, 1}, highest, one},
		{"Mul", field.Mul, api.U256{full - 1, full, full, full}, two, highest, api.U256{full - 2, full, full, full}},
	} {
		if got, e := c.do(c.a, c.b, c.m); got != c.want || e != api.OK {
			t.Errorf("%s(%v, %v, %v): %v %d, want %v", c.name, c.a, c.b, c.m, got, e, c.want)
		}
	}
}

// P2.1: all numbers below small moduli.
func TestTwosSmall(t *testing.T) {
	for m := uint64(1); m <= 20; m++ {
		for a := range m {
			for b := range m {
				checkTwos(t, api.U256{a}, api.U256{b}, api.U256{m})
			}
		}
	}
}

// P2.1: moduli of all lengths, and numbers at both ends and amid.
func TestTwosWide(t *testing.T) {
	others := append(edges(), spread(1000)...)
	for i, m := range moduli() {
		l := below(m, few(others, i))
		for _, a := range l {
			for _, b := range l {
				checkTwos(t, a, b, m)
			}
		}
	}
}

func checkPow(t *testing.T, a, x, m api.U256) {
	t.Helper()
	want := fromBig(new(big.Int).Exp(toBig(a), toBig(x), toBig(m)))
	if got, e := field.Pow(a, x, m); got != want || e != api.OK {
		t.Fatalf("Pow(%v, %v, %v): %v %d, want %v", a, x, m, got, e, want)
	}
}

// P2.2
func TestPow(t *testing.T) {
	before, _ := wide.Sub(prime, one)
	for _, c := range []struct{ a, x, m, want api.U256 }{
		{api.U256{3}, api.U256{6}, api.U256{7}, one},
		{api.U256{3}, api.U256{5}, api.U256{7}, api.U256{5}},
		{api.U256{3}, one, api.U256{7}, api.U256{3}},
		{api.U256{3}, nought, api.U256{7}, one},
		{nought, nought, api.U256{7}, one},
		{nought, one, api.U256{7}, nought},
		{nought, highest, api.U256{7}, nought},
		{one, highest, two, one},
		{nought, nought, one, nought},
		{nought, highest, one, nought},
		{two, api.U256{255}, highest, api.U256{0, 0, 0, 1 << 63}},
		{two, api.U256{256}, highest, one},
		{two, before, prime, one},
		{two, prime, prime, two},
		{api.U256{6}, api.U256{7}, api.U256{7}, api.U256{6}},
	} {
		if got, e := field.Pow(c.a, c.x, c.m); got != c.want || e != api.OK {
			t.Errorf("Pow(%v, %v, %v): %v %d, want %v", c.a, c.x, c.m, got, e, c.want)
		}
	}
}

// P2.2: a power is so many products, also where it is greater than the modulus.
func TestPowSmall(t *testing.T) {
	for m := uint64(1); m <= 20; m++ {
		for a := range m {
			want := 1 % m
			for x := range uint64(50) {
				if got, e := field.Pow(api.U256{a}, api.U256{x}, api.U256{m}); got != (api.U256{want}) || e != api.OK {
					t.Fatalf("Pow(%d, %d, %d): %v %d, want %d", a, x, m, got, e, want)
				}
				want = want * a % m
			}
		}
	}
}

// P2.2: wide numbers, of which only the modulus bounds the first one.
func TestPowWide(t *testing.T) {
	others := append(edges(), spread(1000)...)
	for i, m := range moduli() {
		for j, a := range below(m, few(others, i)[:3]) {
			checkPow(t, a, others[(i*11+j)%len(others)], m)
		}
	}
	for _, x := range append(moduli(), nought) {
		checkPow(t, api.U256{3, 1, 4, 1}, x, order)
	}
}

// checkInv asks for what an inverse is, not for how one is found.
func checkInv(t *testing.T, a, m api.U256) {
	t.Helper()
	n := toBig(m)
	got, e := field.Inv(a, m)
	if new(big.Int).GCD(nil, nil, toBig(a), n).Cmp(big.NewInt(1)) != 0 {
		if got != nought || e != api.ErrNone {
			t.Fatalf("Inv(%v, %v): %v %d, want %d", a, m, got, e, api.ErrNone)
		}
		return
	}
	p := new(big.Int).Mul(toBig(a), toBig(got))
	if e != api.OK || toBig(got).Cmp(n) >= 0 || p.Mod(p, n).Cmp(new(big.Int).Mod(big.NewInt(1), n)) != 0 {
		t.Fatalf("Inv(%v, %v): %v %d is no inverse", a, m, got, e)
	}
}

// P2.3
func TestInv(t *testing.T) {
	for _, c := range []struct {
		a, m, want api.U256
		e          api.Errno
	}{
		{api.U256{3}, api.U256{7}, api.U256{5}, api.OK},
		{one, api.U256{7}, one, api.OK},
		{api.U256{6}, api.U256{7}, api.U256{6}, api.OK},
		{api.U256{5}, api.U256{6}, api.U256{5}, api.OK},
		{nought, one, nought, api.OK},
		{one, two, one, api.OK},
		{two, highest, api.U256{0, 0, 0, 1 << 63}, api.OK},
		{api.U256{full - 1, full, full, full}, highest, api.U256{full - 1, full, full, full}, api.OK},
		{api.U256{4}, api.U256{6}, nought, api.ErrNone},
		{api.U256{3}, api.U256{6}, nought, api.ErrNone},
		{nought, two, nought, api.ErrNone},
		{nought, api.U256{7}, nought, api.ErrNone},
		{nought, highest, nought, api.ErrNone},
		{api.U256{5}, highest, nought, api.ErrNone},
	} {
		if got, e := field.Inv(c.a, c.m); got != c.want || e != c.e {
			t.Errorf("Inv(%v, %v): %v %d, want %v %d", c.a, c.m, got, e, c.want, c.e)
		}
	}
}

// P2.3: all numbers below small moduli.
func TestInvSmall(t *testing.T) {
	for m := uint64(1); m <= 200; m++ {
		for a := range m {
			checkInv(t, api.U256{a}, api.U256{m})
		}
	}
}

// P2.3: moduli of all lengths; some numbers have a part in common with them.
func TestInvWide(t *testing.T) {
	others := append(edges(), spread(1000)...)
	for i, m := range moduli() {
		for _, a := range below(m, few(others, i)) {
			checkInv(t, a, m)
		}
	}
	for _, m := range []api.U256{prime, order, highest, {0, 0, 0, 1 << 63}, {0, 0, 0, 3}} {
		for _, a := range below(m, others) {
			checkInv(t, a, m)
		}
	}
}

// P2.3: neighbours whose quotients are all 1 take the most divisions, and those
// whose quotients are a whole part, or more, show nothing in their highest bits.
func TestInvQuotients(t *testing.T) {
	for _, q := range []*big.Int{
		big.NewInt(1), big.NewInt(2), big.NewInt(1 << 31), big.NewInt(1 << 61), big.NewInt(1<<62 - 1), big.NewInt(1 << 62),
		toBig(api.U256{full}), toBig(api.U256{0, 1}), toBig(api.U256{1, 1}), toBig(api.U256{full, full}), toBig(api.U256{0, 0, 0, 1}),
	} {
		a, b := big.NewInt(1), new(big.Int).Add(q, big.NewInt(1))
		for b.BitLen() <= 256 {
			checkInv(t, fromBig(a), fromBig(b))
			common(t, a, b)
			a, b = b, new(big.Int).Add(a, new(big.Int).Mul(q, b))
		}
	}
}

// common multiplies both numbers, so that they have no inverse any more.
func common(t *testing.T, a, b *big.Int) {
	t.Helper()
	for _, n := range []int64{2, 3, 1 << 40} {
		f := big.NewInt(n)
		if m := new(big.Int).Mul(b, f); m.BitLen() <= 256 {
			checkInv(t, fromBig(new(big.Int).Mul(a, f)), fromBig(m))
		}
	}
}

// All calls: what is refused, in which order, and that nothing else comes with it.
func TestRefuses(t *testing.T) {
	type row struct {
		a, m api.U256
		want api.Errno
	}
	rows := []row{
		{nought, nought, api.ErrZero},
		{one, nought, api.ErrZero},
		{highest, nought, api.ErrZero},
		{one, one, api.ErrRange},
		{api.U256{7}, api.U256{7}, api.ErrRange},
		{api.U256{8}, api.U256{7}, api.ErrRange},
		{highest, highest, api.ErrRange},
		{highest, one, api.ErrRange},
		{prime, prime, api.ErrRange},
		{api.U256{0, 0, 0, 1}, api.U256{full, full, full, 0}, api.ErrRange},
	}
	for _, c := range rows {
		for _, x := range []api.U256{nought, one, c.m, highest} {
			got, e := field.Pow(c.a, x, c.m)
			refused(t, fmt.Sprint("Pow", c.a, x, c.m), got, e, c.want)
		}
		got, e := field.Inv(c.a, c.m)
		refused(t, fmt.Sprint("Inv", c.a, c.m), got, e, c.want)
		for _, f := range twos {
			for _, b := range []api.U256{nought, c.a, highest} {
				got, e = f.do(c.a, b, c.m)
				refused(t, fmt.Sprint(f.name, c.a, b, c.m), got, e, c.want)
				got, e = f.do(b, c.a, c.m)
				refused(t, fmt.Sprint(f.name, b, c.a, c.m), got, e, c.want)
			}
		}
	}
}

func refused(t *testing.T, what string, got api.U256, e, want api.Errno) {
	t.Helper()
	if got != nought || e != want {
		t.Errorf("%s: %v %d, want %d", what, got, e, want)
	}
}

func ExampleInv() {
	a, _ := field.Inv(api.U256{3}, api.U256{7})
	_, e := field.Inv(api.U256{4}, api.U256{6})
	fmt.Println(a[0], e)
	// Output: 5 refused 5
}
