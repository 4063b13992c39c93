package scale_test

import (
	"fmt"
	"math"
	"math/big"
	"math/rand"
	"testing"

	"bascule/api"
	"bascule/scale"
	"bascule/wide"
)

const full = ^uint64(0)

var (
	nought  = api.U256{}
	highest = api.U256{full, full, full, full}
	bound   = new(big.Int).Lsh(big.NewInt(1), 256)
)

// toBig and fromBig go part by part, so that they lean on nothing of the program.
func toBig(a api.U256) *big.Int {
	n := new(big.Int)
	for i := len(a) - 1; i >= 0; i-- {
		n.Lsh(n, 64).Or(n, new(big.Int).SetUint64(a[i]))
	}
	return n
}

func fromBig(t *testing.T, n *big.Int) api.U256 {
	t.Helper()
	if n.Sign() < 0 || n.Cmp(bound) >= 0 {
		t.Fatalf("%v is no number of 256 bits", n)
	}
	var a api.U256
	for i := range a {
		a[i] = new(big.Int).Rsh(n, uint(64*i)).Uint64()
	}
	return a
}

// factor as its words say: 10 so often taken as decimals are more than eight.
func factor(decimals int) *big.Int {
	f := big.NewInt(1)
	for i := 8; i < decimals; i++ {
		f.Mul(f, big.NewInt(10))
	}
	return f
}

// outside: decimals that no amount has, some of them right once they are cut.
func outside() []int {
	return []int{
		-1, -2, -8, -9, -77, 78, 79, 84, 85, 86, 100, 255, 256, 264, 1<<16 + 10, 1 << 31, 1<<32 + 10, -1 << 32, 1 - 1<<62,
		math.MaxInt, math.MaxInt - 1, math.MinInt, math.MinInt + 7, math.MinInt + 8, math.MinInt + 10, math.MinInt + 85,
	}
}

// amounts by these decimals at which something begins or ends, and others of all lengths.
func amounts(t *testing.T, decimals int, r *rand.Rand) []api.U256 {
	l := []api.U256{nought, {1}, {9}, {10}, {99}, {100}, {full}, {0, 1}, {full, full}, {0, 0, 1}, {0, 0, 0, 1}, {0, 0, 0, 1 << 63}, highest}
	f := factor(decimals)
	top := new(big.Int).Div(toBig(highest), f)
	for _, by := range []int64{1, 2, 3, 10} {
		for _, n := range []*big.Int{new(big.Int).Mul(f, big.NewInt(by)), new(big.Int).Mul(f, top), top} {
			for d := int64(-1); d <= 1; d++ {
				m := new(big.Int).Add(n, big.NewInt(d))
				if m.Sign() >= 0 && m.Cmp(bound) < 0 {
					l = append(l, fromBig(t, m))
				}
			}
		}
	}
	for range 30 {
		n := new(big.Int).Rand(r, new(big.Int).Lsh(big.NewInt(1), uint(1+r.Intn(256))))
		l = append(l, fromBig(t, n))
	}
	return l
}

// P10.1: what is reckoned by hand.
func TestDownTold(t *testing.T) {
	for _, c := range []struct {
		a        string
		decimals int
		n, dust  string
	}{
		{"0", 0, "0", "0"},
		{"12345", 0, "12345", "0"},
		{"12345", 7, "12345", "0"},
		{"12345", 8, "12345", "0"},
		{"12345", 9, "1234", "5"},
		{"12345", 10, "123", "45"},
		{"12345", 12, "1", "2345"},
		{"12345", 13, "0", "12345"},
		{"12345", 77, "0", "12345"},
		{"500", 10, "5", "0"},
		{"99", 10, "0", "99"},
		{"100", 10, "1", "0"},
		{"1000000000000000000", 18, "100000000", "0"},
		{"1000000000999999999", 18, "100000000", "999999999"},
		{"999999999999999999999999999999999999999999999999999999999999999999999", 77, "0", "999999999999999999999999999999999999999999999999999999999999999999999"},
		{"1000000000000000000000000000000000000000000000000000000000000000000000", 77, "1", "0"},
		{"115792089237316195423570985008687907853269984665640564039457584007913129639935", 77, "115792089", "237316195423570985008687907853269984665640564039457584007913129639935"},
		{"115792089237316195423570985008687907853269984665640564039457584007913129639935", 76, "1157920892", "37316195423570985008687907853269984665640564039457584007913129639935"},
	} {
		a, e := wide.Parse(c.a)
		if e != api.OK {
			t.Fatalf("%s: %d", c.a, e)
		}
		n, dust, e := scale.Down(a, c.decimals)
		if wide.Show(n) != c.n || wide.Show(dust) != c.dust || e != api.OK {
			t.Errorf("Down(%s, %d): %s %s %d, want %s %s", c.a, c.decimals, wide.Show(n), wide.Show(dust), e, c.n, c.dust)
		}
	}
}

// P10.1: all decimals that may be, held against sums of the library.
func TestDown(t *testing.T) {
	r := rand.New(rand.NewSource(1))
	for decimals := 0; decimals <= 77; decimals++ {
		f := factor(decimals)
		for _, a := range amounts(t, decimals, r) {
			q, m := new(big.Int).DivMod(toBig(a), f, new(big.Int))
			n, dust, e := scale.Down(a, decimals)
			if n != fromBig(t, q) || dust != fromBig(t, m) || e != api.OK {
				t.Fatalf("Down(%v, %d): %v %v %d, want %v %v", toBig(a), decimals, n, dust, e, q, m)
			}
		}
	}
}

// P10.1: what is refused, and that nothing else comes with it.
func TestDownRefuses(t *testing.T) {
	for _, decimals := range outside() {
		for _, a := range []api.U256{nought, {1}, {12345}, highest} {
			if n, dust, e := scale.Down(a, decimals); n != nought || dust != nought || e != api.ErrRange {
				t.Errorf("Down(%v, %d): %v %v %d, want %d", a, decimals, n, dust, e, api.ErrRange)
			}
		}
	}
}

// P10.2: what is reckoned by hand.
func TestUpTold(t *testing.T) {
	for _, c := range []struct {
		n        string
		decimals int
		a        string
		e        api.Errno
	}{
		{"0", 0, "0", api.OK},
		{"0", 77, "0", api.OK},
		{"123", 0, "123", api.OK},
		{"123", 8, "123", api.OK},
		{"123", 9, "1230", api.OK},
		{"123", 10, "12300", api.OK},
		{"5", 18, "50000000000", api.OK},
		{"1", 77, "1000000000000000000000000000000000000000000000000000000000000000000000", api.OK},
		{"115792089", 77, "115792089000000000000000000000000000000000000000000000000000000000000000000000", api.OK},
		{"115792090", 77, "0", api.ErrFunds},
		{"115792089237316195423570985008687907853269984665640564039457584007913129639935", 8, "115792089237316195423570985008687907853269984665640564039457584007913129639935", api.OK},
		{"11579208923731619542357098500868790785326998466564056403945758400791312963993", 9, "115792089237316195423570985008687907853269984665640564039457584007913129639930", api.OK},
		{"11579208923731619542357098500868790785326998466564056403945758400791312963994", 9, "0", api.ErrFunds},
		{"115792089237316195423570985008687907853269984665640564039457584007913129639935", 9, "0", api.ErrFunds},
		{"115792089237316195423570985008687907853269984665640564039457584007913129639935", 77, "0", api.ErrFunds},
	} {
		n, e := wide.Parse(c.n)
		if e != api.OK {
			t.Fatalf("%s: %d", c.n, e)
		}
		a, e := scale.Up(n, c.decimals)
		if wide.Show(a) != c.a || e != c.e {
			t.Errorf("Up(%s, %d): %s %d, want %s %d", c.n, c.decimals, wide.Show(a), e, c.a, c.e)
		}
	}
}

// P10.2: all decimals that may be, held against sums of the library.
func TestUp(t *testing.T) {
	r := rand.New(rand.NewSource(2))
	for decimals := 0; decimals <= 77; decimals++ {
		f := factor(decimals)
		for _, n := range amounts(t, decimals, r) {
			want, wantE := new(big.Int).Mul(toBig(n), f), api.OK
			if want.Cmp(bound) >= 0 {
				want, wantE = new(big.Int), api.ErrFunds
			}
			if a, e := scale.Up(n, decimals); a != fromBig(t, want) || e != wantE {
				t.Fatalf("Up(%v, %d): %v %d, want %v %d", toBig(n), decimals, a, e, want, wantE)
			}
		}
	}
}

// P10.2: what is refused, and that decimals are looked at ahead of the amount.
func TestUpRefuses(t *testing.T) {
	for _, decimals := range outside() {
		for _, n := range []api.U256{nought, {1}, {12345}, highest} {
			if a, e := scale.Up(n, decimals); a != nought || e != api.ErrRange {
				t.Errorf("Up(%v, %d): %v %d, want %d", n, decimals, a, e, api.ErrRange)
			}
		}
	}
}

// P10.1, P10.2: what goes down comes up again, but for its dust.
func TestDownAndUp(t *testing.T) {
	r := rand.New(rand.NewSource(3))
	for decimals := 0; decimals <= 77; decimals++ {
		for _, a := range amounts(t, decimals, r) {
			n, dust, e := scale.Down(a, decimals)
			if e != api.OK {
				t.Fatalf("Down(%v, %d): %d", a, decimals, e)
			}
			back, e := scale.Up(n, decimals)
			if e != api.OK {
				t.Fatalf("Up(%v, %d): %d", n, decimals, e)
			}
			if sum, over := wide.Add(back, dust); sum != a || over {
				t.Fatalf("%v by %d decimals comes back as %v", a, decimals, sum)
			}
		}
	}
}

func ExampleDown() {
	n, dust, e := scale.Down(api.U256{12345}, 10)
	fmt.Println(wide.Show(n), wide.Show(dust), e == api.OK)
	a, e := scale.Up(n, 10)
	fmt.Println(wide.Show(a), e == api.OK)
	// Output:
	// 123 45 true
	// 12300 true
}
