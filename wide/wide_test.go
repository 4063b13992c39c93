package wide_test

import (
	"fmt"
	"math/big"
	"strings"
	"testing"

	"bascule/api"
	"bascule/wide"
)

const full = ^uint64(0)

var (
	nought  = api.U256{}
	one     = api.U256{1}
	highest = api.U256{full, full, full, full}
	bound   = new(big.Int).Lsh(big.NewInt(1), 256)
)

// toBig and fromBig go part by part, so that they lean on nothing of the package.
func toBig(a api.U256) *big.Int {
	n := new(big.Int)
	for i := len(a) - 1; i >= 0; i-- {
		n.Lsh(n, 64).Or(n, new(big.Int).SetUint64(a[i]))
	}
	return n
}

func fromBig(t *testing.T, n *big.Int) api.U256 {
	t.Helper()
	if n.Sign() < 0 || n.Cmp(bound) >= 0 {
		t.Fatalf("%v is no number of 256 bits", n)
	}
	var a api.U256
	for i := range a {
		a[i] = new(big.Int).Rsh(n, uint(64*i)).Uint64()
	}
	return a
}

// edges: all numbers whose parts are some of those at which carries begin and end.
func edges() []api.U256 {
	parts := [4]uint64{0, 1, 1 << 63, full}
	var l []api.U256
	for i := range 256 {
		l = append(l, api.U256{parts[i%4], parts[i/4%4], parts[i/16%4], parts[i/64]})
	}
	return l
}

// spread: numbers of all lengths, the same ones in every run.
func spread(n int) []api.U256 {
	state := uint64(0)
	next := func() uint64 {
		state += 0x9e3779b97f4a7c15
		x := state
		x = (x ^ x>>30) * 0xbf58476d1ce4e5b9
		x = (x ^ x>>27) * 0x94d049bb133111eb
		return x ^ x>>31
	}
	l := make([]api.U256, n)
	for i := range l {
		for j := range 1 + next()%4 {
			l[i][j] = next() >> (next() % 64)
		}
	}
	return l
}

// pairs calls f with each pair of edges, and with many others.
func pairs(f func(a, b api.U256)) {
	for _, a := range edges() {
		for _, b := range edges() {
			f(a, b)
		}
	}
	l := spread(20000)
	for i := range l[1:] {
		f(l[i], l[i+1])
	}
}

// singles are edges and many others.
func singles() []api.U256 {
	return append(edges(), spread(5000)...)
}

// P1.1
func TestAdd(t *testing.T) {
	for _, c := range []struct {
		a, b, sum api.U256
		over      bool
	}{
		{nought, nought, nought, false},
		{api.U256{2}, api.U256{3}, api.U256{5}, false},
		{api.U256{full, full, full, 0}, one, api.U256{0, 0, 0, 1}, false},
		{highest, nought, highest, false},
		{highest, one, nought, true},
		{highest, highest, api.U256{full - 1, full, full, full}, true},
	} {
		if sum, over := wide.Add(c.a, c.b); sum != c.sum || over != c.over {
			t.Errorf("Add(%v, %v): %v %v, want %v %v", c.a, c.b, sum, over, c.sum, c.over)
		}
	}
	pairs(func(a, b api.U256) {
		n := new(big.Int).Add(toBig(a), toBig(b))
		over := n.Cmp(bound) >= 0
		want := fromBig(t, n.Mod(n, bound))
		if got, o := wide.Add(a, b); got != want || o != over {
			t.Fatalf("Add(%v, %v): %v %v, want %v %v", a, b, got, o, want, over)
		}
	})
}

// P1.2
func TestSub(t *testing.T) {
	for _, c := range []struct {
		a, b, rest api.U256
		under      bool
	}{
		{nought, nought, nought, false},
		{api.U256{5}, api.U256{3}, api.U256{2}, false},
		{api.U256{0, 0, 0, 1}, one, api.U256{full, full, full, 0}, false},
		{highest, highest, nought, false},
		{nought, one, highest, true},
		{nought, highest, one, true},
		{api.U256{3}, api.U256{5}, api.U256{full - 1, full, full, full}, true},
	} {
		if rest, under := wide.Sub(c.a, c.b); rest != c.rest || under != c.under {
			t.Errorf("Sub(%v, %v): %v %v, want %v %v", c.a, c.b, rest, under, c.rest, c.under)
		}
	}
	pairs(func(a, b api.U256) {
		n := new(big.Int).Sub(toBig(a), toBig(b))
		under := n.Sign() < 0
		want := fromBig(t, n.Mod(n, bound))
		if got, u := wide.Sub(a, b); got != want || u != under {
			t.Fatalf("Sub(%v, %v): %v %v, want %v %v", a, b, got, u, want, under)
		}
	})
}

// P1.3
func TestMul(t *testing.T) {
	for _, c := range []struct{ a, b, low, high api.U256 }{
		{nought, highest, nought, nought},
		{highest, one, highest, nought},
		{api.U256{6}, api.U256{7}, api.U256{42}, nought},
		{api.U256{0, 0, 1}, api.U256{0, 0, 1}, nought, one},
		{highest, api.U256{2}, api.U256{full - 1, full, full, full}, one},
		{highest, highest, one, api.U256{full - 1, full, full, full}},
	} {
		if low, high := wide.Mul(c.a, c.b); low != c.low || high != c.high {
			t.Errorf("Mul(%v, %v): %v %v, want %v %v", c.a, c.b, low, high, c.low, c.high)
		}
	}
	pairs(func(a, b api.U256) {
		high, low := new(big.Int).DivMod(new(big.Int).Mul(toBig(a), toBig(b)), bound, new(big.Int))
		l, h := wide.Mul(a, b)
		if l != fromBig(t, low) || h != fromBig(t, high) {
			t.Fatalf("Mul(%v, %v): %v %v, want %v %v", a, b, l, h, fromBig(t, low), fromBig(t, high))
		}
	})
}

// P1.4
func TestDivMod(t *testing.T) {
	for _, c := range []struct {
		a, b, q, r api.U256
		e          api.Errno
	}{
		{api.U256{17}, api.U256{5}, api.U256{3}, api.U256{2}, api.OK},
		{api.U256{4}, api.U256{5}, nought, api.U256{4}, api.OK},
		{nought, api.U256{5}, nought, nought, api.OK},
		{highest, one, highest, nought, api.OK},
		{highest, highest, one, nought, api.OK},
		{api.U256{full - 1, full, full, full}, highest, nought, api.U256{full - 1, full, full, full}, api.OK},
		{highest, api.U256{0, 0, 0, 1}, api.U256{full}, api.U256{full, full, full}, api.OK},
		{api.U256{5}, nought, nought, nought, api.ErrZero},
		{nought, nought, nought, nought, api.ErrZero},
		{highest, nought, nought, nought, api.ErrZero},
	} {
		if q, r, e := wide.DivMod(c.a, c.b); q != c.q || r != c.r || e != c.e {
			t.Errorf("DivMod(%v, %v): %v %v %d, want %v %v %d", c.a, c.b, q, r, e, c.q, c.r, c.e)
		}
	}
	pairs(func(a, b api.U256) { checkDivMod(t, a, b) })
}

func checkDivMod(t *testing.T, a, b api.U256) {
	t.Helper()
	var q, r api.U256
	e := api.ErrZero
	if b != nought {
		n, m := new(big.Int).DivMod(toBig(a), toBig(b), new(big.Int))
		q, r, e = fromBig(t, n), fromBig(t, m), api.OK
	}
	if gotQ, gotR, gotE := wide.DivMod(a, b); gotQ != q || gotR != r || gotE != e {
		t.Fatalf("DivMod(%v, %v): %v %v %d, want %v %v %d", a, b, gotQ, gotR, gotE, q, r, e)
	}
}

// TestDivModNearMultiples divides numbers that lie close to a multiple, where a
// quotient that is wrong by one shows (P1.4).
func TestDivModNearMultiples(t *testing.T) {
	l := singles()
	for i, b := range l {
		if b == nought {
			continue
		}
		// A factor below the quotient of the highest number keeps the product whole.
		most, _, _ := wide.DivMod(highest, b)
		_, factor, _ := wide.DivMod(l[len(l)-1-i], most)
		product, _ := wide.Mul(b, factor)
		before, _ := wide.Sub(product, one)
		after, _ := wide.Add(product, one)
		for _, a := range []api.U256{before, product, after} {
			checkDivMod(t, a, b)
		}
	}
}

// P1.5
func TestCmp(t *testing.T) {
	for _, c := range []struct {
		a, b api.U256
		want int
	}{
		{nought, nought, 0},
		{highest, highest, 0},
		{one, api.U256{2}, -1},
		{api.U256{2}, one, 1},
		{api.U256{full, full, full, 0}, api.U256{0, 0, 0, 1}, -1},
		{api.U256{0, 0, 0, 1 << 63}, api.U256{full, full, full, 1}, 1},
	} {
		if got := wide.Cmp(c.a, c.b); got != c.want {
			t.Errorf("Cmp(%v, %v): %d, want %d", c.a, c.b, got, c.want)
		}
	}
	pairs(func(a, b api.U256) {
		if got, want := wide.Cmp(a, b), toBig(a).Cmp(toBig(b)); got != want {
			t.Fatalf("Cmp(%v, %v): %d, want %d", a, b, got, want)
		}
	})
}

// P1.6
func TestShow(t *testing.T) {
	for _, c := range []struct {
		a    api.U256
		want string
	}{
		{nought, "0"},
		{one, "1"},
		{api.U256{10}, "10"},
		{api.U256{1000000007}, "1000000007"},
		{api.U256{0, 1}, "18446744073709551616"},
		{api.U256{0, 0, 0, 1}, "6277101735386680763835789423207666416102355444464034512896"},
		{highest, "115792089237316195423570985008687907853269984665640564039457584007913129639935"},
	} {
		if got := wide.Show(c.a); got != c.want {
			t.Errorf("Show(%v): %q, want %q", c.a, got, c.want)
		}
	}
	for _, a := range singles() {
		if got, want := wide.Show(a), toBig(a).String(); got != want {
			t.Fatalf("Show(%v): %q, want %q", a, got, want)
		}
	}
}

// P1.7
func TestParse(t *testing.T) {
	for _, c := range []struct {
		s    string
		want api.U256
	}{
		{"0", nought},
		{"1", one},
		{"9", api.U256{9}},
		{"10", api.U256{10}},
		{"18446744073709551615", api.U256{full}},
		{"18446744073709551616", api.U256{0, 1}},
		{"115792089237316195423570985008687907853269984665640564039457584007913129639935", highest},
	} {
		if got, e := wide.Parse(c.s); got != c.want || e != api.OK {
			t.Errorf("Parse(%q): %v %d, want %v", c.s, got, e, c.want)
		}
	}
	for _, a := range singles() {
		if got, e := wide.Parse(toBig(a).String()); got != a || e != api.OK {
			t.Fatalf("Parse(%v): %v %d, want %v", toBig(a), got, e, a)
		}
	}
}

// P1.7: what is refused, and that nothing else comes with it.
func TestParseRefuses(t *testing.T) {
	for _, c := range []struct {
		s    string
		want api.Errno
	}{
		{strings.Repeat("1", 79), api.ErrSize},
		{strings.Repeat("0", 79), api.ErrSize},
		{strings.Repeat("x", 79), api.ErrSize},
		{strings.Repeat("1", 5000), api.ErrSize},
		{strings.Repeat("é", 40), api.ErrSize},
		{strings.Repeat("é", 39), api.ErrForm},
		{strings.Repeat("x", 78), api.ErrForm},
		{strings.Repeat("0", 78), api.ErrForm},
		{strings.Repeat("9", 77) + "x", api.ErrForm},
		{"0" + strings.Repeat("9", 77), api.ErrForm},
		{"", api.ErrForm},
		{"00", api.ErrForm},
		{"01", api.ErrForm},
		{"1x", api.ErrForm},
		{"x1", api.ErrForm},
		{"1/", api.ErrForm},
		{"1:", api.ErrForm},
		{"+1", api.ErrForm},
		{"-1", api.ErrForm},
		{" 1", api.ErrForm},
		{"1\n", api.ErrForm},
		{"1_0", api.ErrForm},
		{"1.0", api.ErrForm},
		{"0x1", api.ErrForm},
		{"1\x00", api.ErrForm},
		{"1\xff", api.ErrForm},
		{"\u0661", api.ErrForm},
		{"115792089237316195423570985008687907853269984665640564039457584007913129639936", api.ErrRange},
		{"115792089237316195423570985008687907853269984665640564039457584007913129639940", api.ErrRange},
		{"200000000000000000000000000000000000000000000000000000000000000000000000000000", api.ErrRange},
		{strings.Repeat("9", 78), api.ErrRange},
	} {
		if got, e := wide.Parse(c.s); got != nought || e != c.want {
			t.Errorf("Parse(%q): %v %d, want %d", c.s, got, e, c.want)
		}
	}
}

// P1.7: each byte by itself is a digit or is refused.
func TestParseBytes(t *testing.T) {
	for i := range 256 {
		s := string([]byte{byte(i)})
		got, e := wide.Parse(s)
		if i >= '0' && i <= '9' {
			if got != (api.U256{uint64(i - '0')}) || e != api.OK {
				t.Errorf("Parse(%q): %v %d", s, got, e)
			}
		} else if got != nought || e != api.ErrForm {
			t.Errorf("Parse(%q): %v %d, want %d", s, got, e, api.ErrForm)
		}
	}
}

// P1.8
func TestBytes(t *testing.T) {
	a := api.U256{0x1718191a1b1c1d1e, 0x0f10111213141516, 0x0708090a0b0c0d0e, 0x00010203040506ff}
	b := [32]byte{0, 1, 2, 3, 4, 5, 6, 255}
	for i := 8; i < 32; i++ {
		b[i] = byte(i - 1)
	}
	if got := wide.Bytes(a); got != b {
		t.Errorf("Bytes(%v): %v, want %v", a, got, b)
	}
	if got := wide.From(b); got != a {
		t.Errorf("From(%v): %v, want %v", b, got, a)
	}
	for _, a := range singles() {
		var b [32]byte
		toBig(a).FillBytes(b[:])
		if got := wide.Bytes(a); got != b {
			t.Fatalf("Bytes(%v): %v, want %v", a, got, b)
		}
		if got := wide.From(b); got != a {
			t.Fatalf("From(%v): %v, want %v", b, got, a)
		}
	}
}

// P1.9
func TestTen(t *testing.T) {
	want := big.NewInt(1)
	for n := 0; n <= 77; n++ {
		if got, e := wide.Ten(n); got != fromBig(t, want) || e != api.OK {
			t.Errorf("Ten(%d): %v %d, want %v", n, got, e, want)
		}
		want.Mul(want, big.NewInt(10))
	}
	for _, n := range []int{-1, 78, 79, 1 << 40, -1 << 63, 1<<63 - 1} {
		if got, e := wide.Ten(n); got != nought || e != api.ErrRange {
			t.Errorf("Ten(%d): %v %d, want %d", n, got, e, api.ErrRange)
		}
	}
}

func ExampleShow() {
	a, _ := wide.Ten(20)
	b, _ := wide.Parse("18446744073709551617")
	sum, over := wide.Add(a, b)
	fmt.Println(wide.Show(sum), over)
	// Output: 118446744073709551617 false
}
