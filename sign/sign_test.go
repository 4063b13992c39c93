package sign_test

import (
	"crypto/ecdsa"
	"crypto/elliptic"
	"fmt"
	"math"
	"math/big"
	"testing"

	"bascule/api"
	"bascule/curve"
	"bascule/keccak"
	"bascule/sign"
)

// P5.1
func TestPoint(t *testing.T) {
	// On this one 2 times Base can't be made.
	torn := half()
	torn.Base = at(5, 6)
	// Here N is another number than that of all points, 31.
	long := toy()
	long.N = api.U256{40}
	for _, c := range []struct {
		c    api.Curve
		d    api.U256
		want api.Point
		e    api.Errno
	}{
		{toy(), one, at(2, 12), api.OK},
		{toy(), two, at(7, 7), api.OK},
		{toy(), api.U256{30}, at(2, 31), api.OK},
		{toy(), nought, api.Point{}, api.ErrRange},
		{toy(), api.U256{31}, api.Point{}, api.ErrRange},
		{toy(), api.U256{32}, api.Point{}, api.ErrRange},
		{toy(), api.U256{1, 1}, api.Point{}, api.ErrRange},
		{toy(), highest, api.Point{}, api.ErrRange},
		{long, api.U256{31}, farOne, api.OK},
		{long, api.U256{39}, fromPair(first(modelOf(long).mult(big.NewInt(8), toPair(long.Base)))), api.OK},
		{long, api.U256{40}, api.Point{}, api.ErrRange},
		{torn, one, at(5, 6), api.OK},
		{torn, two, api.Point{}, api.ErrCurve},
		{torn, api.U256{7}, api.Point{}, api.ErrRange},
		{secp256k1(), secp256k1().N, api.Point{}, api.ErrRange},
		{secp256k1(), one, secp256k1().Base, api.OK},
	} {
		if got, e := sign.Point(c.c, c.d); got != c.want || e != c.e {
			t.Errorf("%v of %v: %v %d, want %v %d", c.d, c.c, got, e, c.want, c.e)
		}
	}
}

func first(p *pair, _ bool) *pair { return p }

// P5.1: all secrets of small curves, and what is none.
func TestPointSmall(t *testing.T) {
	for _, c := range smalls() {
		for d := range c.N[0] + 2 {
			p, ok := modelOf(c).mult(new(big.Int).SetUint64(d), toPair(c.Base))
			want, e := fromPair(p), api.OK
			if d == 0 || d >= c.N[0] {
				want, e = api.Point{}, api.ErrRange
			} else if !ok {
				want, e = api.Point{}, api.ErrCurve
			}
			if got, ge := sign.Point(c, api.U256{d}); got != want || ge != e {
				t.Fatalf("%d of %v: %v %d, want %v %d", d, c, got, ge, want, e)
			}
		}
	}
}

// P5.1, P5.3 to P5.5: a curve that may not be is what is told first.
func TestNoCurve(t *testing.T) {
	for _, c := range noCurves() {
		for _, d := range []api.U256{nought, one, two, highest} {
			if p, e := sign.Point(c, d); p != (api.Point{}) || e != api.ErrCurve {
				t.Errorf("Point of %v: %v %d", c, p, e)
			}
			if s, e := sign.Make(c, d, [32]byte{1}); s != (api.Sign{}) || e != api.ErrCurve {
				t.Errorf("Make of %v: %v %d", c, s, e)
			}
			for _, s := range []api.Sign{{}, {R: two, S: one}, {R: d, S: d, Odd: 9}} {
				for _, q := range []api.Point{farOne, at(2, 12), {}, {X: d, Y: d}} {
					if e := sign.Check(c, q, [32]byte{1}, s); e != api.ErrCurve {
						t.Errorf("Check of %v: %d", c, e)
					}
				}
				if p, e := sign.Recover(c, [32]byte{1}, s); p != (api.Point{}) || e != api.ErrCurve {
					t.Errorf("Recover of %v: %v %d", c, p, e)
				}
			}
		}
	}
}

// P5.2: keys that are known everywhere.
func TestKeyOf(t *testing.T) {
	for _, c := range []struct{ secret, key string }{
		{"1", "7e5f4552091a69125d5dfcb7b8c2659029395bdf"},
		{"2", "2b5ad5c4795c026514f8317c7a215e218dccd6cf"},
		{"ac0974bec39a17e36ba4a6b4d238ff944bacb478cbed5efcae784d7bf4f2ff80", "f39fd6e51aad88f6f4ce6ab8827279cfffb92266"},
		{"289c2857d4598e37fb9647507e47a309d6133539bf21a8b9cb6df88fd5232032", "970e8128ab834e8eac17ab8e3812f010678cf791"},
		{"4c0883a69102937d6231471b5dbb6204fe5129617082792ae468d01a3f362318", "2c7536e3605d9c16a7a3d7b1898e529396a65c23"},
	} {
		p, e := sign.Point(secp256k1(), hex(c.secret))
		if k := sign.KeyOf(p); e != api.OK || fmt.Sprintf("%x", k) != c.key {
			t.Errorf("%s: %x %d, want %s", c.secret, k, e, c.key)
		}
	}
}

// P5.2: any numbers have a key, those of no curve, too.
func TestKeyOfAny(t *testing.T) {
	if k := sign.KeyOf(farOne); fmt.Sprintf("%x", k) != "3f17f1962b36e491b30a40b2405849e597ba5fb5" {
		t.Errorf("far: %x", k)
	}
	if sign.KeyOf(farOne) != sign.KeyOf(api.Point{}) {
		t.Error("far and not far are not the same")
	}
	l := []api.U256{nought, one, {0, 0, 0, 1 << 63}, {1, 2, 3, 4}, {1 << 8}, highest}
	for _, x := range l {
		for _, y := range l {
			b := bytesOf(toBig(x))
			c := bytesOf(toBig(y))
			sum := keccak.Sum(append(b[:], c[:]...))
			if k := sign.KeyOf(api.Point{X: x, Y: y}); k != api.Key(sum[12:]) {
				t.Errorf("%v %v: %x, want %x", x, y, k, sum)
			}
		}
	}
}

func checkMake(t *testing.T, c api.Curve, d api.U256, h [32]byte, met map[string]int) api.Sign {
	t.Helper()
	want, e := modelOf(c).sign(d, h, met)
	got, ge := sign.Make(c, d, h)
	if got != want || ge != e {
		t.Fatalf("%v, %x of %v: %v %d, want %v %d", d, h, c, got, ge, want, e)
	}
	return got
}

// P5.3: secrets of small curves, and all of one. All that can come of a number does.
func TestMakeSmall(t *testing.T) {
	met := map[string]int{}
	odds := [4]int{}
	for _, c := range smalls() {
		for i, h := range hashes() {
			d := 1 + uint64(i*5)%(c.N[0]-1)
			odds[checkMake(t, c, api.U256{d}, h, met).Odd]++
		}
	}
	for d := uint64(1); d < 31; d++ {
		for _, h := range hashes() {
			odds[checkMake(t, toy(), api.U256{d}, h, met).Odd]++
		}
	}
	for _, what := range []string{"K 0", "no point", "far", "R 0", "no inverse", "S 0", "as it is", "turned", "none"} {
		if met[what] == 0 {
			t.Errorf("never: %s", what)
		}
	}
	for i, n := range odds {
		if n == 0 {
			t.Errorf("never: Odd %d", i)
		}
	}
}

// P5.3
func TestMake(t *testing.T) {
	// By 2, and X even: of no number something comes.
	even := toy()
	even.N = two
	// The order of Base is 3, and 0 is the X of all that is not far.
	third := api.Curve{P: api.U256{43}, B: api.U256{4}, N: api.U256{43}, Base: at(0, 2)}
	for _, c := range []struct {
		c    api.Curve
		d    api.U256
		want api.Errno
	}{
		{toy(), nought, api.ErrRange},
		{toy(), api.U256{31}, api.ErrRange},
		{toy(), api.U256{2, 1}, api.ErrRange},
		{toy(), highest, api.ErrRange},
		{even, one, api.ErrNone},
		{even, two, api.ErrRange},
		{third, one, api.ErrNone},
		{third, api.U256{42}, api.ErrNone},
		{third, api.U256{43}, api.ErrRange},
	} {
		if got, e := sign.Make(c.c, c.d, [32]byte{}); got != (api.Sign{}) || e != c.want {
			t.Errorf("%v of %v: %v %d, want %d", c.d, c.c, got, e, c.want)
		}
	}
}

// P5.3: of no sum's number something comes, but of 1.
func TestMakeOne(t *testing.T) {
	h := sumOf(25540635)
	met := map[string]int{}
	got := checkMake(t, sparse(), api.U256{3}, h, met)
	if want := (api.Sign{R: one, S: api.U256{8}, Odd: 2}); got != want {
		t.Errorf("%v, want %v", got, want)
	}
	if n := met["K 0"] + met["R 0"] + met["S 0"]; n != 256 {
		t.Errorf("%d numbers of which nothing comes", n)
	}
}

// P5.3: wide numbers.
func TestMakeWide(t *testing.T) {
	met := map[string]int{}
	for _, c := range []api.Curve{secp256k1(), p256()} {
		for i, d := range []api.U256{one, two, {0, 0, 0, 1 << 63}, {1, 2, 3, 4}, fromBig(new(big.Int).Sub(toBig(c.N), big.NewInt(1)))} {
			for j, h := range [][32]byte{{}, bytesOf(toBig(c.N)), bytesOf(toBig(highest)), keccak.Sum([]byte{byte(i)})} {
				s := checkMake(t, c, d, h, met)
				if i+j > 4 {
					continue
				}
				q, e := sign.Point(c, d)
				if f := sign.Check(c, q, h, s); e != api.OK || f != api.OK {
					t.Errorf("%v, %x: %d %d", d, h, e, f)
				}
				if r, e := sign.Recover(c, h, s); r != q || e != api.OK {
					t.Errorf("%v, %x: %v %d, want %v", d, h, r, e, q)
				}
			}
		}
	}
	if met["as it is"] == 0 || met["turned"] == 0 {
		t.Error("one of the two is never met", met)
	}
	// A small one, and no prime: a sum on the way can't be made, or K has no inverse.
	checkMake(t, widest(), api.U256{5}, [32]byte{7}, met)
}

// P5.3 to P5.5, what comes of it: what is signed is right by who has signed it, and
// tells the point; changed it is not.
func TestRound(t *testing.T) {
	c := toy()
	for d := uint64(1); d < 31; d++ {
		q, e := sign.Point(c, api.U256{d})
		for n := range uint64(31) {
			h := sumOf(n)
			s, f := sign.Make(c, api.U256{d}, h)
			r, g := sign.Recover(c, h, s)
			if e != api.OK || f != api.OK || g != api.OK || r != q || sign.Check(c, q, h, s) != api.OK {
				t.Fatal(d, n, s, r, e, f, g)
			}
			// A sum with the same rest is signed with others, but this is right by it, too.
			if e := sign.Check(c, q, sumOf(n+31), s); e != api.OK {
				t.Fatal(d, n, e)
			}
		}
	}
}

// P5.5, what comes of it: each point that is told is one by which it is right, and
// there is no other one.
func TestTold(t *testing.T) {
	c := toy()
	told := 0
	for n := range uint64(3 * 31 * 16 * 4) {
		s := api.Sign{R: api.U256{n / 3 % 31}, S: api.U256{n / 93 % 16}, Odd: int(n / 93 / 16)}
		h := sumOf(n % 3 * 11)
		q, e := sign.Recover(c, h, s)
		if e != api.OK {
			continue
		}
		told++
		if e := sign.Check(c, q, h, s); e != api.OK {
			t.Fatal(s, q, e)
		}
	}
	if told < 100 {
		t.Error(told)
	}
}

// P5.4, P5.5: the library's signatures, and its word on the program's.
func TestLibrary(t *testing.T) {
	c, lib := p256(), elliptic.P256()
	d := api.U256{0x9e3779b97f4a7c15, 0xbf58476d1ce4e5b9, 0x94d049bb133111eb, 0xd1342543de82ef95}
	q, e := sign.Point(c, d)
	if e != api.OK {
		t.Fatal(e)
	}
	public := ecdsa.PublicKey{Curve: lib, X: toBig(q.X), Y: toBig(q.Y)}
	for i := range byte(4) {
		h := keccak.Sum([]byte{i})
		s, e := sign.Make(c, d, h)
		if e != api.OK || !ecdsa.Verify(&public, h[:], toBig(s.R), toBig(s.S)) {
			t.Errorf("%x: %v %d", h, s, e)
		}
	}
	// Made with the number 5, so that all is the same in every run.
	p, _ := curve.Mult(c, api.U256{5}, c.Base)
	h := keccak.Sum([]byte{9})
	over := new(big.Int).ModInverse(big.NewInt(5), toBig(c.N))
	n := new(big.Int).Mul(toBig(p.X), toBig(d))
	n.Add(n, new(big.Int).SetBytes(h[:])).Mul(n, over).Mod(n, toBig(c.N))
	if !ecdsa.Verify(&public, h[:], toBig(p.X), n) {
		t.Fatal("the library does not take it")
	}
	low, high := api.Sign{R: p.X, S: fromBig(n)}, api.Sign{R: p.X, S: fromBig(new(big.Int).Sub(toBig(c.N), n))}
	if toBig(low.S).Cmp(toBig(high.S)) > 0 {
		low, high = high, low
	}
	if e := sign.Check(c, q, h, low); e != api.OK {
		t.Error(e)
	}
	if e := sign.Check(c, q, h, high); e != api.ErrSign {
		t.Error(e)
	}
}

// P5.4, P5.5: signatures on secp256k1 that are told of elsewhere.
func TestKnown(t *testing.T) {
	for _, k := range []struct {
		key, h string
		s      api.Sign
	}{
		{"2c7536e3605d9c16a7a3d7b1898e529396a65c23", "1da44b586eb0729ff70a73c326926f6ed5a25f5b056e7f47fbc6e58d86871655", api.Sign{
			R:   hex("b91467e570a6466aa9e9876cbcd013baba02900b8979d43fe208a4a4f339f5fd"),
			S:   hex("6007e74cd82e037b800186422fc2da167c747ef045e5d18a5f5d4300f8e1a029"),
			Odd: 1,
		}},
		{"a19d069d48d2e9392ec2bb41ecab0a72119d633b", "ce0677bb30baa8cf067c88db9811f4333d131bf8bcf12fe7065d211dce971008", api.Sign{
			R:   hex("90f27b8b488db00b00606796d2987f6a5f59ae62ea05effe84fef5b8b0e54998"),
			S:   hex("4a691139ad57a3f0b906637673aa2f63d1f55cb1a69199d4009eea23ceaddc93"),
			Odd: 1,
		}},
	} {
		h := bytesOf(toBig(hex(k.h)))
		q, e := sign.Recover(secp256k1(), h, k.s)
		if key := sign.KeyOf(q); e != api.OK || fmt.Sprintf("%x", key) != k.key {
			t.Fatalf("%x %d, want %s", key, e, k.key)
		}
		checkOdds(t, secp256k1(), q, h, k.s)
		checkTurned(t, secp256k1(), q, h, k.s)
	}
}

// checkOdds: Check asks nothing of Odd, but that it may be; each other one tells another
// point, or, with 2 or 3, none, as R and N is not below P.
func checkOdds(t *testing.T, c api.Curve, q api.Point, h [32]byte, s api.Sign) {
	t.Helper()
	for odd := range 4 {
		x := s
		x.Odd = odd
		if e := sign.Check(c, q, h, x); e != api.OK {
			t.Errorf("Odd %d: %d", odd, e)
		}
		p, e := sign.Recover(c, h, x)
		if want := api.ErrSign; odd > 1 && (e != want || p != api.Point{}) {
			t.Errorf("Odd %d: %v %d, want %d", odd, p, e, want)
		}
		if odd < 2 && (e != api.OK || (p == q) != (odd == s.Odd)) {
			t.Errorf("Odd %d: %v %d", odd, p, e)
		}
	}
}

// checkTurned: with one bit turned it is not right.
func checkTurned(t *testing.T, c api.Curve, q api.Point, h [32]byte, s api.Sign) {
	t.Helper()
	for i := range 4 {
		other, r, f := h, s, s
		other[i*8+i] ^= 1 << i
		r.R[i] ^= 1 << i
		f.S[i] ^= 1 << i
		if e := sign.Check(c, q, other, s); e != api.ErrSign {
			t.Errorf("sum: %d", e)
		}
		if e := sign.Check(c, q, h, r); e != api.ErrSign {
			t.Errorf("R: %d", e)
		}
		if e := sign.Check(c, q, h, f); e != api.ErrSign {
			t.Errorf("S: %d", e)
		}
	}
}

// forms: what of a signature, by this N, is no form that may be right.
func forms(n api.U256) []api.Sign {
	half := new(big.Int).Rsh(toBig(n), 1)
	high := fromBig(half.Add(half, big.NewInt(1)))
	less := fromBig(new(big.Int).Sub(toBig(n), big.NewInt(1)))
	return []api.Sign{
		{},
		{R: nought, S: one},
		{R: n, S: one},
		{R: api.U256{2, 0, 0, 1 << 63}, S: one, Odd: 5},
		{R: highest, S: one},
		{R: two, S: nought},
		{R: two, S: high},
		{R: two, S: less},
		{R: two, S: n},
		{R: two, S: highest},
		{R: two, S: one, Odd: -1},
		{R: two, S: one, Odd: 4},
		{R: two, S: one, Odd: math.MinInt},
		{R: two, S: one, Odd: math.MaxInt},
		{R: two, S: one, Odd: 256},
	}
}

// P5.4, P5.5: what may not be of a signature.
func TestForms(t *testing.T) {
	even := toy()
	even.N = api.U256{30}
	for _, c := range []api.Curve{toy(), even, half(), secp256k1(), widest()} {
		for _, s := range forms(c.N) {
			if e := sign.Check(c, c.Base, [32]byte{}, s); e != api.ErrSign {
				t.Errorf("Check of %v: %d", s, e)
			}
			if p, e := sign.Recover(c, [32]byte{}, s); p != (api.Point{}) || e != api.ErrSign {
				t.Errorf("Recover of %v: %v %d", s, p, e)
			}
		}
	}
}

// P5.4: what is refused, and what first.
func TestCheck(t *testing.T) {
	// N is not that of all points, and has inverses for few.
	even := toy()
	even.N = api.U256{30}
	for i, c := range []struct {
		c    api.Curve
		q    api.Point
		h    uint64
		s    api.Sign
		want api.Errno
	}{
		// Base and Base is (7, 7), whose X is 7; and Base 9 times, 7 times, and so on.
		{toy(), at(2, 12), 24, api.Sign{R: api.U256{7}, S: one}, api.ErrSign}, // the far one
		{toy(), at(2, 12), 25, api.Sign{R: api.U256{7}, S: one}, api.ErrSign}, // Base
		{toy(), at(2, 12), 26, api.Sign{R: api.U256{7}, S: one}, api.OK},
		{toy(), at(2, 12), 57, api.Sign{R: api.U256{7}, S: one}, api.OK},
		{toy(), at(2, 12), 22, api.Sign{R: api.U256{7}, S: one}, api.OK}, // 29 times: the other one with this X
		{toy(), at(2, 12), 28, api.Sign{R: api.U256{4}, S: one, Odd: 3}, api.ErrSign},
		{toy(), at(2, 12), 30, api.Sign{R: api.U256{4}, S: one, Odd: 3}, api.OK}, // 3 times: 35, which leaves 4
		{toy(), at(2, 12), 27, api.Sign{R: api.U256{3}, S: one}, api.ErrSign},
		{toy(), at(2, 13), 26, api.Sign{R: api.U256{7}, S: one}, api.ErrCurve},
		{toy(), at(2, 13), 26, api.Sign{}, api.ErrCurve},
		{toy(), at(45, 12), 26, api.Sign{R: api.U256{7}, S: one}, api.ErrCurve},
		{toy(), api.Point{X: two, Far: true}, 26, api.Sign{}, api.ErrCurve},
		{toy(), farOne, 2, api.Sign{R: api.U256{7}, S: one}, api.ErrSign},
		{even, farOne, 2, api.Sign{R: api.U256{7}, S: two}, api.ErrSign},
		{even, at(2, 12), 2, api.Sign{R: api.U256{7}, S: two}, api.ErrCurve},
		{even, at(2, 12), 2, api.Sign{R: api.U256{7}, S: api.U256{15}}, api.ErrCurve},
		{even, at(2, 12), 2, api.Sign{R: api.U256{7}, S: api.U256{16}}, api.ErrSign},
		{half(), at(5, 6), 0, api.Sign{R: two, S: one}, api.ErrCurve},
		{half(), at(5, 6), 0, api.Sign{R: one, S: one}, api.ErrSign},
		{half(), at(5, 6), 1, api.Sign{R: one, S: one}, api.ErrCurve}, // 0 and 5 are 5 apart
	} {
		if e := sign.Check(c.c, c.q, sumOf(c.h), c.s); e != c.want {
			t.Errorf("%d: %d, want %d", i, e, c.want)
		}
	}
}

// P5.5: what is refused, and what first.
func TestRecover(t *testing.T) {
	even := toy()
	even.N = api.U256{14}
	// Here some R are not below P.
	long := toy()
	long.N = api.U256{101}
	for i, c := range []struct {
		c    api.Curve
		h    uint64
		s    api.Sign
		want api.Point
		e    api.Errno
	}{
		{toy(), 1, api.Sign{R: two, S: one}, api.Point{}, api.ErrSign}, // the far one
		{toy(), 28, api.Sign{R: two, S: one}, at(7, 7), api.OK},        // (1 - 28) / 2 is 2
		{toy(), 0, api.Sign{R: two, S: two}, at(2, 12), api.OK},
		{toy(), 31, api.Sign{R: two, S: two}, at(2, 12), api.OK},
		{toy(), 0, api.Sign{R: two, S: two, Odd: 1}, at(2, 31), api.OK},
		{toy(), 0, api.Sign{R: one, S: two}, api.Point{}, api.ErrSign},         // no point
		{toy(), 0, api.Sign{R: one, S: two, Odd: 1}, api.Point{}, api.ErrSign}, // no point
		{toy(), 0, api.Sign{R: two, S: two, Odd: 2}, api.Point{}, api.ErrSign}, // 33: no point
		{toy(), 0, api.Sign{R: api.U256{4}, S: api.U256{4}, Odd: 3}, at(35, 21), api.OK},
		{toy(), 0, api.Sign{R: api.U256{4}, S: api.U256{4}, Odd: 2}, at(35, 22), api.OK},
		{toy(), 0, api.Sign{R: api.U256{12}, S: one, Odd: 2}, api.Point{}, api.ErrSign}, // 43
		{toy(), 0, api.Sign{R: api.U256{14}, S: one, Odd: 2}, api.Point{}, api.ErrSign}, // 45
		{even, 0, api.Sign{R: two, S: one}, api.Point{}, api.ErrCurve},
		{even, 0, api.Sign{R: api.U256{4}, S: one}, api.Point{}, api.ErrSign}, // no point comes first
		{even, 0, api.Sign{R: api.U256{7}, S: one}, api.Point{}, api.ErrCurve},
		{long, 0, api.Sign{R: api.U256{43}, S: one}, api.Point{}, api.ErrSign},
		{long, 0, api.Sign{R: api.U256{45}, S: one}, api.Point{}, api.ErrSign},
		{long, 0, api.Sign{R: two, S: two}, at(2, 12), api.OK},
		{long, 0, api.Sign{R: two, S: two, Odd: 2}, api.Point{}, api.ErrSign},
		// R and N leave 0 by 2^256, which is an X, but of another one.
		{widest(), 0, api.Sign{R: one, S: one, Odd: 2}, api.Point{}, api.ErrSign},
		{widest(), 0, api.Sign{R: one, S: one, Odd: 3}, api.Point{}, api.ErrSign},
	} {
		if p, e := sign.Recover(c.c, sumOf(c.h), c.s); p != c.want || e != c.e {
			t.Errorf("%d: %v %d, want %v %d", i, p, e, c.want, c.e)
		}
	}
}

// P5.4, P5.5: signatures and points of small curves; a sum on the way may be missing.
func TestCheckAndRecoverSmall(t *testing.T) {
	checked, told := map[api.Errno]int{}, map[api.Errno]int{}
	for _, c := range smalls() {
		m, all, sums := modelOf(c), points(c), hashes()
		i := 0
		for r := range c.N[0] + 1 {
			for s := range c.N[0]/2 + 2 {
				for odd := range 4 {
					i++
					x := api.Sign{R: api.U256{r}, S: api.U256{s}, Odd: odd}
					q, h := all[i*7%len(all)], sums[i%len(sums)]
					want := m.check(q, h, x)
					checked[want]++
					if e := sign.Check(c, q, h, x); e != want {
						t.Fatalf("Check of %v by %v, %x, %v: %d, want %d", c, q, h, x, e, want)
					}
					p, f := m.recover(h, x)
					told[f]++
					if got, e := sign.Recover(c, h, x); got != p || e != f {
						t.Fatalf("Recover of %v, %x, %v: %v %d, want %v %d", c, h, x, got, e, p, f)
					}
				}
			}
		}
	}
	for _, e := range []api.Errno{api.OK, api.ErrSign, api.ErrCurve} {
		if checked[e] == 0 || told[e] == 0 {
			t.Errorf("never: %d %v %v", e, checked, told)
		}
	}
}

func ExampleKeyOf() {
	c := api.Curve{
		P: api.U256{0xfffffffefffffc2f, 0xffffffffffffffff, 0xffffffffffffffff, 0xffffffffffffffff},
		B: api.U256{7},
		N: api.U256{0xbfd25e8cd0364141, 0xbaaedce6af48a03b, 0xfffffffffffffffe, 0xffffffffffffffff},
		Base: api.Point{
			X: api.U256{0x59f2815b16f81798, 0x029bfcdb2dce28d9, 0x55a06295ce870b07, 0x79be667ef9dcbbac},
			Y: api.U256{0x9c47d08ffb10d4b8, 0xfd17b448a6855419, 0x5da4fbfc0e1108a8, 0x483ada7726a3c465},
		},
	}
	p, _ := sign.Point(c, api.U256{1})
	k := sign.KeyOf(p)
	fmt.Println(k[:4])
	// Output: [126 95 69 82]
}
