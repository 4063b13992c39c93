package quorum_test

import (
	"encoding/hex"
	"fmt"
	"math"
	"math/bits"
	"slices"
	"testing"

	"bascule/api"
	"bascule/keccak"
	"bascule/quorum"
	"bascule/sign"
	"bascule/wide"
)

const full = ^uint64(0)

// needs: what Need says of 0, 1, and so on, up to MaxKeys.
func needs() []int {
	return []int{1, 1, 2, 3, 3, 4, 5, 5, 6, 7, 7, 8, 9, 9, 10, 11, 11, 12, 13, 13}
}

func toy() api.Curve {
	return api.Curve{P: api.U256{43}, B: api.U256{7}, N: api.U256{31}, Base: api.Point{X: api.U256{2}, Y: api.U256{12}}}
}

// even: the small curve with an N by which few numbers have inverses.
func even() api.Curve {
	c := toy()
	c.N = api.U256{14}
	return c
}

func secp256k1() api.Curve {
	return api.Curve{
		P: api.U256{0xfffffffefffffc2f, full, full, full},
		B: api.U256{7},
		N: api.U256{0xbfd25e8cd0364141, 0xbaaedce6af48a03b, full - 1, full},
		Base: api.Point{
			X: api.U256{0x59f2815b16f81798, 0x029bfcdb2dce28d9, 0x55a06295ce870b07, 0x79be667ef9dcbbac},
			Y: api.U256{0x9c47d08ffb10d4b8, 0xfd17b448a6855419, 0x5da4fbfc0e1108a8, 0x483ada7726a3c465},
		},
	}
}

// noCurves: some that may not be.
func noCurves() []api.Curve {
	l := []api.Curve{{}}
	for _, do := range []func(c *api.Curve){
		func(c *api.Curve) { c.N = api.U256{1} },
		func(c *api.Curve) { c.P = api.U256{42} },
		func(c *api.Curve) { c.Base = api.Point{Far: true} },
		func(c *api.Curve) { c.Base.Y[0]++ },
		func(c *api.Curve) { c.B = api.U256{50} },
	} {
		c := toy()
		do(&c)
		l = append(l, c)
	}
	return l
}

// signed: the keys of the secrets 1 to n, and what all of them have signed.
func signed(t *testing.T, c api.Curve, n int, h [32]byte) (api.Set, []api.Signed) {
	t.Helper()
	var s api.Set
	var l []api.Signed
	for i := range n {
		d := api.U256{uint64(i + 1)}
		p, e := sign.Point(c, d)
		y, f := sign.Make(c, d, h)
		if e != api.OK || f != api.OK {
			t.Fatalf("secret %d: %d %d", i+1, e, f)
		}
		s.Keys, l = append(s.Keys, sign.KeyOf(p)), append(l, api.Signed{Who: i, Sign: y})
	}
	return s, l
}

// of a list what has its bit in a mask.
func of(l []api.Signed, mask int) []api.Signed {
	var r []api.Signed
	for i, x := range l {
		if mask>>i&1 == 1 {
			r = append(r, x)
		}
	}
	return r
}

// P6.1
func TestNeed(t *testing.T) {
	for n, want := range needs() {
		if got, e := quorum.Need(n); got != want || e != api.OK {
			t.Errorf("%d: %d %d, want %d", n, got, e, want)
		}
		if 3*want <= 2*n || 3*(want-1) > 2*n {
			t.Errorf("%d: %d is not the least one above two thirds", n, want)
		}
		// What comes of it: what any two have in common, if they are that many at all.
		if want <= n && 3*(2*want-n) <= n {
			t.Errorf("%d: of %d not more than a third in common", n, want)
		}
	}
	if len(needs()) != api.MaxKeys+1 {
		t.Errorf("%d numbers", len(needs()))
	}
	for _, n := range []int{-1, -2, math.MinInt, math.MinInt / 2, api.MaxKeys + 1, api.MaxKeys + 2, 256, math.MaxInt / 2, math.MaxInt/2 + 1, math.MaxInt} {
		if got, e := quorum.Need(n); got != 0 || e != api.ErrRange {
			t.Errorf("%d: %d %d", n, got, e)
		}
	}
}

// P6.2: of all that may be chosen of few keys.
func TestEnough(t *testing.T) {
	h := [32]byte{9}
	for n := 1; n <= 7; n++ {
		s, l := signed(t, toy(), n, h)
		for mask := range 1 << n {
			want := api.OK
			if bits.OnesCount(uint(mask)) < needs()[n] {
				want = api.ErrFew
			}
			if e := quorum.Check(toy(), s, h, of(l, mask)); e != want {
				t.Errorf("%b of %d: %d, want %d", mask, n, e, want)
			}
		}
	}
}

// P6.2: sets of each number of keys, from none to more than may be.
func TestSizes(t *testing.T) {
	h := keccak.Sum([]byte("sizes"))
	s, l := signed(t, toy(), 30, h)
	for n := range len(l) + 1 {
		some := api.Set{Keys: s.Keys[:n]}
		if n == 0 || n > api.MaxKeys {
			for _, signs := range [][]api.Signed{nil, l[:0], l[:n], l, {{Who: -1}}} {
				if e := quorum.Check(toy(), some, h, signs); e != api.ErrSize {
					t.Errorf("%d keys, %d signatures: %d", n, len(signs), e)
				}
			}
			continue
		}
		need := needs()[n]
		for _, c := range []struct {
			signs []api.Signed
			want  api.Errno
		}{
			{nil, api.ErrFew},
			{l[:need-1], api.ErrFew},
			{l[n-need+1 : n], api.ErrFew},
			{l[:need], api.OK},
			{l[n-need : n], api.OK},
			{l[:n], api.OK},
			{l[:n+1], api.ErrRange},
			{l[n : n+need], api.ErrRange},
		} {
			if e := quorum.Check(toy(), some, h, c.signs); e != c.want {
				t.Errorf("%d keys, %d signatures: %d, want %d", n, len(c.signs), e, c.want)
			}
		}
	}
}

// P6.2: what is told first of what is wrong with all.
func TestFirst(t *testing.T) {
	h := [32]byte{1}
	s, l := signed(t, toy(), 20, h)
	wrong := []api.Signed{{Who: -1}}
	for _, c := range noCurves() {
		for _, keys := range [][]api.Key{nil, s.Keys[:4], s.Keys} {
			for _, signs := range [][]api.Signed{nil, l[:4], l, wrong} {
				if e := quorum.Check(c, api.Set{Keys: keys}, h, signs); e != api.ErrCurve {
					t.Errorf("%v, %d keys: %d", c, len(keys), e)
				}
			}
		}
	}
	for _, signs := range [][]api.Signed{wrong, {{Who: 4}, {}}, {{Who: math.MaxInt}, {Who: math.MinInt}}} {
		if e := quorum.Check(toy(), api.Set{Keys: s.Keys[:4]}, h, signs); e != api.ErrFew {
			t.Errorf("%v: %d", signs, e)
		}
	}
}

// P6.2: who has signed must be there, and above the one ahead.
func TestWho(t *testing.T) {
	h := [32]byte{9}
	s, l := signed(t, toy(), 3, h)
	for i := range 5 * 5 * 5 * 5 {
		var signs []api.Signed
		for _, who := range []int{i/125 - 1, i/25%5 - 1, i/5%5 - 1, i%5 - 1} {
			// Where there is no such key any signature is right enough.
			signs = append(signs, api.Signed{Who: who, Sign: l[min(max(who, 0), 2)].Sign})
		}
		for _, some := range [][]api.Signed{signs[:3], signs} {
			if e, want := quorum.Check(toy(), s, h, some), wantWho(some, 3); e != want {
				t.Errorf("%v: %d, want %d", some, e, want)
			}
		}
	}
	for _, who := range []int{math.MinInt, math.MinInt32, -4, -1, 3, 4, 19, 256, 1 << 32, math.MaxInt} {
		for i := range l {
			signs := slices.Clone(l)
			signs[i].Who = who
			if e := quorum.Check(toy(), s, h, signs); e != api.ErrRange {
				t.Errorf("%d: %d", who, e)
			}
		}
	}
}

// wantWho: what of a list with the right signatures is to be told.
func wantWho(l []api.Signed, n int) api.Errno {
	for i, x := range l {
		if x.Who < 0 || x.Who >= n {
			return api.ErrRange
		}
		if i > 0 && l[i-1].Who >= x.Who {
			return api.ErrForm
		}
	}
	return api.OK
}

// fault: what is done to a signature of a list, and what it is refused with.
type fault struct {
	name string
	do   func(l []api.Signed, i int)
	want api.Errno
}

func faults() []fault {
	return []fault{
		{"below", func(l []api.Signed, i int) { l[i].Who = -1 }, api.ErrRange},
		{"above", func(l []api.Signed, i int) { l[i].Who = 5 }, api.ErrRange},
		{"twice", func(l []api.Signed, i int) { l[i].Who = l[i-1].Who }, api.ErrForm},
		{"twice the same", func(l []api.Signed, i int) { l[i] = l[i-1] }, api.ErrForm},
		{"none", func(l []api.Signed, i int) { l[i].Sign = api.Sign{} }, api.ErrSign},
		{"another's", func(l []api.Signed, i int) { l[i].Sign = l[i-1].Sign }, api.ErrSign},
		{"S above", func(l []api.Signed, i int) { l[i].Sign.S = api.U256{31 - l[i].Sign.S[0]} }, api.ErrSign},
		{"Odd", func(l []api.Signed, i int) { l[i].Sign.Odd ^= 1 }, api.ErrSign},
		{"Odd above", func(l []api.Signed, i int) { l[i].Sign.Odd += 4 }, api.ErrSign},
		{"no key and none", func(l []api.Signed, i int) { l[i] = api.Signed{Who: 5} }, api.ErrRange},
		{"twice and none", func(l []api.Signed, i int) { l[i] = api.Signed{Who: l[i-1].Who} }, api.ErrForm},
	}
}

// P6.2: a fault anywhere, behind as many as are enough, too; and of two of them the one
// that stands ahead is told, whatever it is.
func TestFaults(t *testing.T) {
	h := [32]byte{9}
	s, l := signed(t, toy(), 5, h)
	for i := 1; i < 5; i++ {
		for _, f := range faults() {
			one := slices.Clone(l)
			f.do(one, i)
			if e := quorum.Check(toy(), s, h, one); e != f.want {
				t.Errorf("%s at %d: %d, want %d", f.name, i, e, f.want)
			}
			for j := i + 1; j < 5; j++ {
				for _, g := range faults() {
					two := slices.Clone(l)
					g.do(two, j)
					f.do(two, i)
					if e := quorum.Check(toy(), s, h, two); e != f.want {
						t.Errorf("%s at %d, %s at %d: %d, want %d", f.name, i, g.name, j, e, f.want)
					}
				}
			}
		}
	}
}

// rightOne: a signature that tells a point, of a curve with a small N.
func rightOne(t *testing.T, c api.Curve, h [32]byte) api.Sign {
	t.Helper()
	for r := range c.N[0] {
		s := api.Sign{R: api.U256{r}, S: api.U256{1}}
		if _, e := sign.Recover(c, h, s); e == api.OK {
			return s
		}
	}
	t.Fatalf("%v: none", c)
	return api.Sign{}
}

// P6.2: what Recover refuses is told as it is, behind what is said of Who.
func TestRefused(t *testing.T) {
	h := [32]byte{}
	right := rightOne(t, even(), h)
	p, _ := sign.Recover(even(), h, right)
	// The zero point has a key, but what is refused has none.
	s := api.Set{Keys: []api.Key{sign.KeyOf(p), sign.KeyOf(api.Point{})}}
	odd := api.Sign{R: api.U256{2}, S: api.U256{1}}
	missing := api.Sign{R: api.U256{4}, S: api.U256{1}}
	for _, c := range []struct {
		first, second api.Signed
		want          api.Errno
	}{
		{api.Signed{Who: 0, Sign: right}, api.Signed{Who: 1, Sign: right}, api.ErrSign},
		{api.Signed{Who: 0, Sign: right}, api.Signed{Who: 1, Sign: odd}, api.ErrCurve},
		{api.Signed{Who: 0, Sign: right}, api.Signed{Who: 1, Sign: missing}, api.ErrSign},
		{api.Signed{Who: 0, Sign: right}, api.Signed{Who: 1}, api.ErrSign},
		{api.Signed{Who: 0, Sign: right}, api.Signed{Who: 0, Sign: odd}, api.ErrForm},
		{api.Signed{Who: 0, Sign: right}, api.Signed{Who: -1, Sign: odd}, api.ErrRange},
		{api.Signed{Who: 0, Sign: right}, api.Signed{Who: 2, Sign: odd}, api.ErrRange},
		{api.Signed{Who: 0, Sign: odd}, api.Signed{Who: -1}, api.ErrCurve},
		{api.Signed{Who: 0, Sign: missing}, api.Signed{Who: -1}, api.ErrSign},
		{api.Signed{Who: 1, Sign: odd}, api.Signed{Who: 0, Sign: right}, api.ErrCurve},
	} {
		if e := quorum.Check(even(), s, h, []api.Signed{c.first, c.second}); e != c.want {
			t.Errorf("%v: %d, want %d", c, e, c.want)
		}
	}
	// By this one the far point is told, whose numbers are those of the zero point.
	far := api.Sign{R: api.U256{2}, S: api.U256{1}}
	s = api.Set{Keys: s.Keys[1:]}
	if e := quorum.Check(toy(), s, [32]byte{31: 1}, []api.Signed{{Sign: far}}); e != api.ErrSign {
		t.Errorf("far: %d", e)
	}
}

// P6.2: each byte of a key, of the sum and of a signature counts.
func TestTurned(t *testing.T) {
	h := keccak.Sum([]byte("turned"))
	s, l := signed(t, secp256k1(), 1, h)
	check := func(what string, i int, h [32]byte, want api.Errno) {
		t.Helper()
		if e := quorum.Check(secp256k1(), s, h, l); e != want {
			t.Errorf("%s %d: %d, want %d", what, i, e, want)
		}
	}
	check("all", 0, h, api.OK)
	for i := range s.Keys[0] {
		s.Keys[0][i] ^= 1 << (i % 8)
		check("key", i, h, api.ErrSign)
		s.Keys[0][i] ^= 1 << (i % 8)
	}
	for i := range h {
		other := h
		other[i] ^= 1 << (i % 8)
		check("sum", i, other, api.ErrSign)
	}
	for i := range 4 {
		l[0].Sign.R[i] ^= 1
		check("R", i, h, api.ErrSign)
		l[0].Sign.R[i] ^= 1
		l[0].Sign.S[i] ^= 1
		check("S", i, h, api.ErrSign)
		l[0].Sign.S[i] ^= 1
	}
	check("all again", 0, h, api.OK)
}

// P6.2: Index and Until say nothing; two places with one key are two.
func TestSet(t *testing.T) {
	h := [32]byte{9}
	s, l := signed(t, toy(), 4, h)
	for _, n := range []int{math.MinInt, -1, 0, 1, api.MaxSets, math.MaxInt} {
		s.Index, s.Until = n, 1
		if e := quorum.Check(toy(), s, h, l); e != api.OK {
			t.Errorf("Index %d: %d", n, e)
		}
		s.Index, s.Until = 0, n
		if e := quorum.Check(toy(), s, h, l[:2]); e != api.ErrFew {
			t.Errorf("Until %d: %d", n, e)
		}
		if e := quorum.Check(toy(), s, h, l[1:]); e != api.OK {
			t.Errorf("Until %d: %d", n, e)
		}
	}
	s.Keys = []api.Key{s.Keys[0], s.Keys[0], s.Keys[1]}
	l = []api.Signed{l[0], {Who: 1, Sign: l[0].Sign}, {Who: 2, Sign: l[1].Sign}}
	if e := quorum.Check(toy(), s, h, l); e != api.OK {
		t.Errorf("one key twice: %d", e)
	}
}

// P6.2: as many as may be, on a curve that is used elsewhere.
func TestWide(t *testing.T) {
	h := keccak.Sum([]byte("wide"))
	s, l := signed(t, secp256k1(), api.MaxKeys, h)
	some := slices.Concat(l[:3], l[5:9], l[11:14], l[16:])
	if e := quorum.Check(secp256k1(), s, h, some); len(some) != 13 || e != api.OK {
		t.Errorf("%d: %d", len(some), e)
	}
	if e := quorum.Check(secp256k1(), s, h, some[1:]); e != api.ErrFew {
		t.Errorf("one less: %d", e)
	}
	some[12].Sign = some[11].Sign
	if e := quorum.Check(secp256k1(), s, h, some); e != api.ErrSign {
		t.Errorf("the last one: %d", e)
	}
}

// P6.2: keys and a signature that are told of elsewhere.
func TestKnown(t *testing.T) {
	b := number("2c7536e3605d9c16a7a3d7b1898e529396a65c23")
	key := api.Key(b[12:])
	h := number("1da44b586eb0729ff70a73c326926f6ed5a25f5b056e7f47fbc6e58d86871655")
	l := []api.Signed{{Sign: api.Sign{
		R:   wide.From(number("b91467e570a6466aa9e9876cbcd013baba02900b8979d43fe208a4a4f339f5fd")),
		S:   wide.From(number("6007e74cd82e037b800186422fc2da167c747ef045e5d18a5f5d4300f8e1a029")),
		Odd: 1,
	}}}
	if e := quorum.Check(secp256k1(), api.Set{Keys: []api.Key{key}}, h, l); e != api.OK {
		t.Errorf("known: %d", e)
	}
	l[0].Sign.Odd = 0
	if e := quorum.Check(secp256k1(), api.Set{Keys: []api.Key{key}}, h, l); e != api.ErrSign {
		t.Errorf("Odd: %d", e)
	}
}

// number of at most 32 bytes, of digits by 16, the lowest byte last.
func number(s string) (r [32]byte) {
	b, e := hex.DecodeString(s)
	if e != nil {
		panic(e)
	}
	copy(r[len(r)-len(b):], b)
	return r
}

// Lists are not changed, their spare room neither.
func TestKept(t *testing.T) {
	h := [32]byte{9}
	s, l := signed(t, toy(), 8, h)
	keys, signs := slices.Clone(s.Keys), slices.Clone(l)
	for n := range len(l) + 1 {
		for m := range len(l) + 1 {
			quorum.Check(toy(), api.Set{Keys: s.Keys[:n]}, h, l[:m])
		}
	}
	if !slices.Equal(s.Keys, keys) || !slices.Equal(l, signs) {
		t.Error("changed")
	}
}

func ExampleCheck() {
	c := api.Curve{P: api.U256{43}, B: api.U256{7}, N: api.U256{31}, Base: api.Point{X: api.U256{2}, Y: api.U256{12}}}
	h := keccak.Sum([]byte("abc"))
	var s api.Set
	var l []api.Signed
	for i := range 4 {
		d := api.U256{uint64(5 + i)}
		p, _ := sign.Point(c, d)
		y, _ := sign.Make(c, d, h)
		s.Keys, l = append(s.Keys, sign.KeyOf(p)), append(l, api.Signed{Who: i, Sign: y})
	}
	fmt.Println(quorum.Need(4))
	fmt.Println(int(quorum.Check(c, s, h, l[1:])))
	fmt.Println(quorum.Check(c, s, h, l[2:]))
	// Output:
	// 3 refused 0
	// 0
	// refused 11
}
