package coin_test

import (
	"bytes"
	"fmt"
	"math/big"
	"math/rand"
	"slices"
	"testing"

	"bascule/api"
	"bascule/coin"
)

const (
	full = ^uint64(0)
	most = 40 // MaxHolds
)

var (
	nought  = api.U256{}
	highest = api.U256{full, full, full, full}
	bound   = new(big.Int).Lsh(big.NewInt(1), 256)
)

// toBig and fromBig go part by part, so that they lean on nothing of the program.
func toBig(a api.U256) *big.Int {
	n := new(big.Int)
	for i := len(a) - 1; i >= 0; i-- {
		n.Lsh(n, 64).Or(n, new(big.Int).SetUint64(a[i]))
	}
	return n
}

func fromBig(n *big.Int) api.U256 {
	if n.Sign() < 0 || n.Cmp(bound) >= 0 {
		panic(n.String() + " is no number of 256 bits")
	}
	var a api.U256
	for i := range a {
		a[i] = new(big.Int).Rsh(n, uint(64*i)).Uint64()
	}
	return a
}

// who: somebody by a first and a last byte.
func who(first, last byte) [32]byte { return [32]byte{0: first, 31: last} }

// holds: holdings of these amounts, of people who stand in this order, every second one
// left out.
func holds(amounts ...api.U256) []api.Holding {
	var l []api.Holding
	for i, a := range amounts {
		l = append(l, api.Holding{Who: who(byte(i/8), byte(2*(i%8)+1)), Amount: a})
	}
	return l
}

// of holdings a coin with the Supply that they have, which must be one.
func of(l ...api.Holding) api.Coin {
	sum := new(big.Int)
	for _, h := range l {
		sum.Add(sum, toBig(h.Amount))
	}
	return api.Coin{Supply: fromBig(sum), Holds: l}
}

// many: so many holdings of 1, 2, ..
func many(n int) []api.Holding {
	var l []api.U256
	for i := range n {
		l = append(l, api.U256{uint64(1 + i)})
	}
	return holds(l...)
}

// whole: coins that may be.
func whole() []api.Coin {
	return []api.Coin{
		{}, {Holds: []api.Holding{}}, of(holds(api.U256{1})...), of(holds(highest)...), of(holds(api.U256{7}, api.U256{3})...),
		of(holds(api.U256{full}, api.U256{1})...), of(holds(api.U256{0, 0, 0, 1}, api.U256{0, 1}, api.U256{5})...),
		of(holds(api.U256{full - 1, full, full, full}, api.U256{1})...), of(holds(api.U256{1}, api.U256{full - 1, full, full, full})...),
		of(holds(api.U256{0, 0, 0, 1 << 63}, api.U256{full, full, full, 1<<63 - 1})...),
		of(api.Holding{Amount: api.U256{9}}, api.Holding{Who: [32]byte(bytes.Repeat([]byte{255}, 32)), Amount: api.U256{0, 9}}),
		of(many(39)...), of(many(40)...), of(append(many(39), api.Holding{Who: who(255, 0), Amount: api.U256{0, 0, 0, 1 << 63}})...),
	}
}

// people: all that have a holding, and some ahead, between and behind.
func people(c api.Coin) [][32]byte {
	l := [][32]byte{{}, who(0, 1), who(0, 2), who(1, 0), who(1, 6), who(4, 16), who(127, 3), who(128, 3), who(255, 255)}
	for _, h := range c.Holds {
		l = append(l, h.Who)
	}
	return l
}

// few of many people.
func few(c api.Coin) [][32]byte {
	p := people(c)
	if len(p) > 16 {
		p = append(p[:12:12], p[len(p)-4:]...)
	}
	return p
}

func none(t *testing.T, what string, c api.Coin, e, want api.Errno) {
	t.Helper()
	if c.Supply != nought || len(c.Holds) != 0 || e != want {
		t.Errorf("%s: %v %d, want %d", what, c, e, want)
	}
}

// alike: the same Supply, and the same holdings.
func alike(a, b api.Coin) bool { return a.Supply == b.Supply && slices.Equal(a.Holds, b.Holds) }

// mayNot: a coin that all refuse, ahead of all else that is wrong.
func mayNot(t *testing.T, what string, c api.Coin, want api.Errno) {
	t.Helper()
	if e := coin.Check(c); e != want {
		t.Errorf("%s: Check: %d, want %d", what, e, want)
	}
	somebody := [][32]byte{{}, who(0, 1), who(9, 9)}
	if len(c.Holds) > 0 {
		somebody = append(somebody, c.Holds[len(c.Holds)-1].Who)
	}
	for _, a := range somebody {
		if n, e := coin.Of(c, a); n != nought || e != want {
			t.Errorf("%s: Of: %v %d, want %d", what, n, e, want)
		}
		for _, n := range []api.U256{nought, {1}, highest} {
			r, e := coin.Mint(c, a, n)
			none(t, what+": Mint", r, e, want)
			r, e = coin.Burn(c, a, n)
			none(t, what+": Burn", r, e, want)
			for _, b := range somebody {
				r, e = coin.Move(c, a, b, n)
				none(t, what+": Move", r, e, want)
			}
		}
	}
}

// P11.1
func TestWhole(t *testing.T) {
	for _, c := range whole() {
		if e := coin.Check(c); e != api.OK {
			t.Errorf("%v: %d", c, e)
		}
	}
	for n := range most + 1 {
		if e := coin.Check(of(many(n)...)); e != api.OK {
			t.Errorf("%d holdings: %d", n, e)
		}
	}
}

// P11.1: too many holdings, ahead of all that is wrong with them.
func TestMany(t *testing.T) {
	for _, n := range []int{41, 42, 80, 100, 256, 296} {
		mayNot(t, fmt.Sprint("holdings ", n), of(many(n)...), api.ErrSize)
	}
	for _, n := range []int{41, 64, 256, 1 << 16} {
		mayNot(t, fmt.Sprint("empty ones ", n), api.Coin{Holds: make([]api.Holding, n)}, api.ErrSize)
		mayNot(t, fmt.Sprint("wrong empty ones ", n), api.Coin{Supply: api.U256{4}, Holds: make([]api.Holding, n)}, api.ErrSize)
	}
	mayNot(t, "40 empty ones", api.Coin{Holds: make([]api.Holding, 40)}, api.ErrState)
}

// P11.1: no holding is empty.
func TestEmpty(t *testing.T) {
	mayNot(t, "an empty one alone", of(holds(nought)...), api.ErrState)
	for _, n := range []int{1, 2, 3, 39, 40} {
		for i := range n {
			l := many(n)
			l[i].Amount = nought
			mayNot(t, fmt.Sprint("empty at ", i, " of ", n), of(l...), api.ErrState)
		}
	}
}

// P11.1: by rising Who, each but once; any byte tells them apart, the first ones first.
func TestRising(t *testing.T) {
	for _, n := range []int{2, 3, 39, 40} {
		for i := range n - 1 {
			l := many(n)
			l[i].Who, l[i+1].Who = l[i+1].Who, l[i].Who
			mayNot(t, fmt.Sprint("turned at ", i, " of ", n), of(l...), api.ErrState)
			l = many(n)
			l[i].Who = l[i+1].Who
			mayNot(t, fmt.Sprint("twice at ", i, " of ", n), of(l...), api.ErrState)
		}
		l := many(n)
		l[0].Who, l[n-1].Who = l[n-1].Who, l[0].Who
		mayNot(t, fmt.Sprint("ends turned of ", n), of(l...), api.ErrState)
	}
	one := api.U256{1}
	for i := range 32 {
		for _, b := range [][2]byte{{0, 1}, {1, 2}, {127, 128}, {0, 255}, {254, 255}, {0, 128}, {9, 10}} {
			low, high := api.Holding{Amount: one}, api.Holding{Amount: one}
			low.Who[i], high.Who[i] = b[0], b[1]
			for j := range i {
				low.Who[j], high.Who[j] = 200, 200
			}
			for j := i + 1; j < 32; j++ {
				low.Who[j] = 255
			}
			if e := coin.Check(of(low, high)); e != api.OK {
				t.Errorf("byte %d, %v: %d", i, b, e)
			}
			mayNot(t, fmt.Sprint("byte ", i, " ", b), of(high, low), api.ErrState)
			for _, h := range []api.Holding{low, high} {
				if n, e := coin.Of(of(low), h.Who); e != api.OK || (n == one) != (h == low) {
					t.Errorf("byte %d, %v: Of: %v %d", i, b, n, e)
				}
			}
		}
	}
}

// P11.1: all amounts are the Supply, whatever their sum is by 2^256.
func TestSupply(t *testing.T) {
	for _, c := range whole() {
		for _, bit := range []int{0, 1, 63, 64, 127, 128, 192, 255} {
			wrong := c
			wrong.Supply[bit/64] ^= 1 << (bit % 64)
			mayNot(t, fmt.Sprint("bit ", bit, " of ", len(c.Holds)), wrong, api.ErrState)
		}
		if c.Supply != nought {
			mayNot(t, "no supply", api.Coin{Holds: c.Holds}, api.ErrState)
		}
	}
	top := api.U256{0, 0, 0, 1 << 63}
	for _, c := range []api.Coin{
		{Supply: nought, Holds: holds(highest, api.U256{1})},
		{Supply: nought, Holds: holds(api.U256{1}, highest)},
		{Supply: nought, Holds: holds(top, top)},
		{Supply: api.U256{5}, Holds: holds(top, top, api.U256{5})},
		{Supply: api.U256{5}, Holds: holds(api.U256{5}, top, top)},
		{Supply: top, Holds: holds(top, top, top)},
		{Supply: highest, Holds: holds(highest, top, top)},
		{Supply: api.U256{full - 1, full, full, full}, Holds: holds(highest, highest)},
		{Supply: api.U256{full - 2, full, full, full}, Holds: holds(highest, highest, highest)},
	} {
		mayNot(t, fmt.Sprint(c.Holds), c, api.ErrState)
	}
}

// P11.2
func TestOf(t *testing.T) {
	for _, c := range whole() {
		for _, w := range people(c) {
			want := nought
			for _, h := range c.Holds {
				if h.Who == w {
					want = h.Amount
				}
			}
			if n, e := coin.Of(c, w); n != want || e != api.OK {
				t.Errorf("%v of %v: %v %d, want %v", w, c, n, e, want)
			}
		}
	}
}

// sums at which something begins or ends for who holds so much of so much.
func sums(supply, has api.U256) []api.U256 {
	l := []api.U256{nought, {1}, {2}, {0, 1}, {0, 0, 0, 1 << 63}, highest}
	for _, n := range []*big.Int{toBig(has), toBig(supply), new(big.Int).Sub(bound, toBig(supply)), new(big.Int).Sub(bound, toBig(has))} {
		for d := int64(-1); d <= 1; d++ {
			m := new(big.Int).Add(n, big.NewInt(d))
			if m.Sign() >= 0 && m.Cmp(bound) < 0 {
				l = append(l, fromBig(m))
			}
		}
	}
	return l
}

// book: what everybody holds, by a map.
type book map[[32]byte]*big.Int

func open(c api.Coin) book {
	b := book{}
	for _, h := range c.Holds {
		b[h.Who] = toBig(h.Amount)
	}
	return b
}

func (b book) of(w [32]byte) *big.Int {
	if b[w] == nil {
		b[w] = new(big.Int)
	}
	return b[w]
}

// change what somebody holds; it is told what may not be then.
func (b book) change(w [32]byte, n *big.Int) api.Errno {
	b.of(w).Add(b.of(w), n)
	sum, people := new(big.Int), 0
	for _, has := range b {
		if has.Sign() < 0 {
			return api.ErrFunds
		}
		sum.Add(sum, has)
		people += has.Sign()
	}
	if sum.Cmp(bound) >= 0 {
		return api.ErrFunds
	}
	if people > most {
		return api.ErrFull
	}
	return api.OK
}

// close the book to a coin.
func (b book) close() api.Coin {
	var l []api.Holding
	for w, has := range b {
		if has.Sign() != 0 {
			l = append(l, api.Holding{Who: w, Amount: fromBig(has)})
		}
	}
	slices.SortFunc(l, func(a, b api.Holding) int {
		return new(big.Int).SetBytes(a.Who[:]).Cmp(new(big.Int).SetBytes(b.Who[:]))
	})
	return of(l...)
}

func minted(c api.Coin, w [32]byte, n api.U256) (api.Coin, api.Errno) {
	b := open(c)
	if e := b.change(w, toBig(n)); e != api.OK {
		return api.Coin{}, e
	}
	return b.close(), api.OK
}

func burnt(c api.Coin, w [32]byte, n api.U256) (api.Coin, api.Errno) {
	b := open(c)
	if e := b.change(w, new(big.Int).Neg(toBig(n))); e != api.OK {
		return api.Coin{}, e
	}
	return b.close(), api.OK
}

func moved(c api.Coin, from, to [32]byte, n api.U256) (api.Coin, api.Errno) {
	b := open(c)
	if e := b.change(from, new(big.Int).Neg(toBig(n))); e != api.OK {
		return api.Coin{}, e
	}
	if e := b.change(to, toBig(n)); e != api.OK {
		return api.Coin{}, e
	}
	return b.close(), api.OK
}

// same: is what a call answers what is wanted?
func same(t *testing.T, what string, got api.Coin, e api.Errno, want api.Coin, wantE api.Errno) {
	t.Helper()
	if !alike(got, want) || e != wantE {
		t.Errorf("%s: %v %d, want %v %d", what, got, e, want, wantE)
	}
	if check := coin.Check(got); check != api.OK {
		t.Errorf("%s: %v: Check: %d", what, got, check)
	}
}

// P11.3, P11.4: held against a book.
func TestMintAndBurn(t *testing.T) {
	told := map[api.Errno]int{}
	for _, c := range whole() {
		for _, w := range people(c) {
			has, _ := coin.Of(c, w)
			for _, n := range sums(c.Supply, has) {
				got, e := coin.Mint(c, w, n)
				want, wantE := minted(c, w, n)
				told[wantE]++
				same(t, fmt.Sprint("Mint ", n, " for ", w, " of ", c), got, e, want, wantE)
				got, e = coin.Burn(c, w, n)
				want, wantE = burnt(c, w, n)
				told[wantE]++
				same(t, fmt.Sprint("Burn ", n, " of ", w, " of ", c), got, e, want, wantE)
			}
		}
	}
	for _, e := range []api.Errno{api.OK, api.ErrFunds, api.ErrFull} {
		if told[e] < 50 {
			t.Errorf("told %d: %d times", e, told[e])
		}
	}
}

// P11.3: what is reckoned by hand.
func TestMintTold(t *testing.T) {
	c := of(holds(api.U256{7}, api.U256{3})...)
	for _, x := range []struct {
		who  [32]byte
		n    api.U256
		want []api.Holding
	}{
		{who(0, 0), api.U256{5}, []api.Holding{{Who: who(0, 0), Amount: api.U256{5}}, {Who: who(0, 1), Amount: api.U256{7}}, {Who: who(0, 3), Amount: api.U256{3}}}},
		{who(0, 1), api.U256{5}, []api.Holding{{Who: who(0, 1), Amount: api.U256{12}}, {Who: who(0, 3), Amount: api.U256{3}}}},
		{who(0, 2), api.U256{5}, []api.Holding{{Who: who(0, 1), Amount: api.U256{7}}, {Who: who(0, 2), Amount: api.U256{5}}, {Who: who(0, 3), Amount: api.U256{3}}}},
		{who(0, 3), api.U256{5}, []api.Holding{{Who: who(0, 1), Amount: api.U256{7}}, {Who: who(0, 3), Amount: api.U256{8}}}},
		{who(1, 0), api.U256{5}, []api.Holding{{Who: who(0, 1), Amount: api.U256{7}}, {Who: who(0, 3), Amount: api.U256{3}}, {Who: who(1, 0), Amount: api.U256{5}}}},
	} {
		got, e := coin.Mint(c, x.who, x.n)
		same(t, fmt.Sprint(x.who), got, e, api.Coin{Supply: api.U256{15}, Holds: x.want}, api.OK)
		// And nothing at all.
		got, e = coin.Mint(c, x.who, nought)
		same(t, fmt.Sprint("nothing for ", x.who), got, e, c, api.OK)
	}
	got, e := coin.Mint(api.Coin{}, who(3, 4), highest)
	same(t, "all", got, e, of(api.Holding{Who: who(3, 4), Amount: highest}), api.OK)
	got, e = coin.Mint(c, who(0, 1), api.U256{full - 10, full, full, full})
	same(t, "up to the highest supply", got, e, api.Coin{Supply: highest, Holds: holds(api.U256{full - 3, full, full, full}, api.U256{3})}, api.OK)
	got, e = coin.Mint(c, who(0, 1), api.U256{full - 9, full, full, full})
	none(t, "to 2^256", got, e, api.ErrFunds)
	got, e = coin.Mint(c, who(7, 7), highest)
	none(t, "above 2^256", got, e, api.ErrFunds)
}

// P11.3: no room, behind a supply that is too great.
func TestMintFull(t *testing.T) {
	l := many(40)
	c := of(l...)
	for _, w := range [][32]byte{who(0, 0), who(0, 2), who(2, 8), who(9, 0)} {
		for _, n := range []api.U256{{1}, {0, 1}, {full - 820, full, full, full}} {
			got, e := coin.Mint(c, w, n)
			none(t, fmt.Sprint("one more ", n), got, e, api.ErrFull)
		}
		for _, n := range []api.U256{{full - 819, full, full, full}, highest} {
			got, e := coin.Mint(c, w, n)
			none(t, fmt.Sprint("one more, and too much ", n), got, e, api.ErrFunds)
		}
		got, e := coin.Mint(c, w, nought)
		same(t, "nothing for one more", got, e, c, api.OK)
		got, e = coin.Mint(of(l[:39]...), w, api.U256{6})
		if w != l[39].Who && (e != api.OK || len(got.Holds) != 40) {
			t.Errorf("the last place: %v %d", got, e)
		}
	}
	for i, h := range l {
		got, e := coin.Mint(c, h.Who, api.U256{1})
		want := slices.Clone(l)
		want[i].Amount[0]++
		same(t, fmt.Sprint("more for ", i), got, e, of(want...), api.OK)
	}
}

// P11.4: what is reckoned by hand.
func TestBurnTold(t *testing.T) {
	c := of(holds(api.U256{7}, api.U256{3}, api.U256{0, 1})...)
	a, b, d := c.Holds[0], c.Holds[1], c.Holds[2]
	for _, x := range []struct {
		who    [32]byte
		n      api.U256
		supply api.U256
		want   []api.Holding
	}{
		{a.Who, api.U256{7}, api.U256{3, 1}, []api.Holding{b, d}},
		{b.Who, api.U256{3}, api.U256{7, 1}, []api.Holding{a, d}},
		{d.Who, api.U256{0, 1}, api.U256{10}, []api.Holding{a, b}},
		{a.Who, api.U256{6}, api.U256{4, 1}, []api.Holding{{Who: a.Who, Amount: api.U256{1}}, b, d}},
		{d.Who, api.U256{1}, api.U256{9, 1}, []api.Holding{a, b, {Who: d.Who, Amount: api.U256{full}}}},
		{d.Who, api.U256{full}, api.U256{11}, []api.Holding{a, b, {Who: d.Who, Amount: api.U256{1}}}},
		{a.Who, nought, c.Supply, c.Holds},
		{who(5, 5), nought, c.Supply, c.Holds},
	} {
		got, e := coin.Burn(c, x.who, x.n)
		same(t, fmt.Sprint(x.n, " of ", x.who), got, e, api.Coin{Supply: x.supply, Holds: x.want}, api.OK)
	}
	for _, x := range []struct {
		who [32]byte
		n   api.U256
	}{
		{a.Who, api.U256{8}}, {a.Who, api.U256{0, 1}}, {a.Who, highest}, {b.Who, api.U256{4}}, {d.Who, api.U256{1, 1}},
		{who(0, 0), api.U256{1}}, {who(0, 2), api.U256{1}}, {who(9, 9), api.U256{1}}, {who(9, 9), highest},
	} {
		got, e := coin.Burn(c, x.who, x.n)
		none(t, fmt.Sprint(x.n, " of ", x.who), got, e, api.ErrFunds)
	}
	got, e := coin.Burn(of(holds(highest)...), who(0, 1), highest)
	same(t, "all", got, e, api.Coin{}, api.OK)
	got, e = coin.Burn(api.Coin{}, who(0, 1), nought)
	same(t, "nothing of nothing", got, e, api.Coin{}, api.OK)
}

// P11.5: held against a book.
func TestMove(t *testing.T) {
	told := map[api.Errno]int{}
	for _, c := range whole() {
		for _, from := range few(c) {
			has, _ := coin.Of(c, from)
			for _, to := range few(c) {
				for _, n := range sums(c.Supply, has) {
					got, e := coin.Move(c, from, to, n)
					want, wantE := moved(c, from, to, n)
					told[wantE]++
					same(t, fmt.Sprint("Move ", n, " from ", from, " to ", to, " of ", c), got, e, want, wantE)
				}
			}
		}
	}
	for _, e := range []api.Errno{api.OK, api.ErrFunds, api.ErrFull} {
		if told[e] < 50 {
			t.Errorf("told %d: %d times", e, told[e])
		}
	}
}

// P11.5: the one holding makes room for the other; to oneself nothing changes.
func TestMoveTold(t *testing.T) {
	l := many(40)
	c := of(l...)
	one := who(200, 1)
	for i, h := range l {
		want := slices.Delete(slices.Clone(l), i, i+1)
		got, e := coin.Move(c, h.Who, one, h.Amount)
		same(t, fmt.Sprint("all of ", i), got, e, of(append(want, api.Holding{Who: one, Amount: h.Amount})...), api.OK)
		if i > 0 {
			got, e = coin.Move(c, h.Who, one, api.U256{uint64(i)})
			none(t, fmt.Sprint("all but one of ", i), got, e, api.ErrFull)
		}
		got, e = coin.Move(c, h.Who, one, nought)
		same(t, fmt.Sprint("nothing of ", i), got, e, c, api.OK)
		for n := range h.Amount[0] + 1 {
			got, e = coin.Move(c, h.Who, h.Who, api.U256{n})
			same(t, fmt.Sprint(i, " to itself"), got, e, c, api.OK)
		}
		got, e = coin.Move(c, h.Who, h.Who, api.U256{uint64(i + 2)})
		none(t, fmt.Sprint(i, " to itself more than it has"), got, e, api.ErrFunds)
		got, e = coin.Move(c, h.Who, one, api.U256{uint64(i + 2)})
		none(t, fmt.Sprint(i, " more than it has, and no room"), got, e, api.ErrFunds)
	}
	got, e := coin.Move(c, one, one, nought)
	same(t, "nothing of nobody", got, e, c, api.OK)
	got, e = coin.Move(c, one, l[0].Who, api.U256{1})
	none(t, "of nobody", got, e, api.ErrFunds)
	// With the highest supply nothing is too much on its way.
	got, e = coin.Move(of(holds(api.U256{full - 1, full, full, full}, api.U256{1})...), who(0, 1), who(0, 3), api.U256{full - 1, full, full, full})
	same(t, "all but one", got, e, of(api.Holding{Who: who(0, 3), Amount: highest}), api.OK)
}

// Calls one behind another, held against one book.
func TestLine(t *testing.T) {
	r := rand.New(rand.NewSource(11))
	told := map[api.Errno]int{}
	var c api.Coin
	for range 8000 {
		a, b := who(byte(r.Intn(12)), byte(r.Intn(5))), who(byte(r.Intn(12)), byte(r.Intn(5)))
		n := fromBig(new(big.Int).Rand(r, new(big.Int).Lsh(big.NewInt(1), uint(1+r.Intn(256)))))
		if has, _ := coin.Of(c, a); r.Intn(8) == 0 {
			n = has
		}
		var got, want api.Coin
		var e, wantE api.Errno
		switch r.Intn(7) {
		case 0, 1, 2:
			got, e = coin.Mint(c, a, n)
			want, wantE = minted(c, a, n)
		case 3:
			got, e = coin.Burn(c, a, n)
			want, wantE = burnt(c, a, n)
		default:
			got, e = coin.Move(c, a, b, n)
			want, wantE = moved(c, a, b, n)
		}
		same(t, fmt.Sprint(n, " of ", a, " and ", b, " of ", c), got, e, want, wantE)
		if told[e]++; e == api.OK {
			c = got
		}
		if t.Failed() {
			return
		}
	}
	for _, e := range []api.Errno{api.OK, api.ErrFunds, api.ErrFull} {
		if told[e] < 100 {
			t.Errorf("told %d: %d times", e, told[e])
		}
	}
}

// P11.1: what Check says of coins with a few faults, said otherwise.
func TestRandom(t *testing.T) {
	r := rand.New(rand.NewSource(111))
	told := map[api.Errno]int{}
	for range 20000 {
		var l []api.Holding
		for i := range r.Intn(44) {
			l = append(l, api.Holding{Who: who(byte(6*i), byte(r.Intn(3))), Amount: api.U256{uint64(1 + r.Intn(9)), 0, 0, uint64(r.Intn(2))}})
		}
		c := of(l...)
		if len(l) > 1 && r.Intn(3) == 0 {
			i, j := r.Intn(len(l)), r.Intn(len(l))
			switch r.Intn(5) {
			case 0:
				l[i].Amount = nought
			case 1:
				l[i].Who = l[j].Who
			case 2:
				l[i], l[j] = l[j], l[i]
			case 3:
				c.Supply[r.Intn(4)]++
			case 4:
				l[i].Amount, l[j].Amount = highest, highest
			}
			if r.Intn(2) == 0 && c.Supply[3] < 1<<60 && l[i].Amount != highest {
				c = of(l...)
			}
		}
		want := said(c)
		told[want]++
		if e := coin.Check(c); e != want {
			t.Fatalf("%v: %d, want %d", c, e, want)
		}
	}
	for _, e := range []api.Errno{api.OK, api.ErrSize, api.ErrState} {
		if told[e] < 1000 {
			t.Errorf("told %d: %d times", e, told[e])
		}
	}
}

// said of a coin: it may be if it is what its book closes to.
func said(c api.Coin) api.Errno {
	if len(c.Holds) > most {
		return api.ErrSize
	}
	sum := new(big.Int)
	for _, h := range c.Holds {
		sum.Add(sum, toBig(h.Amount))
	}
	if sum.Cmp(toBig(c.Supply)) != 0 || !alike(open(c).close(), c) {
		return api.ErrState
	}
	return api.OK
}

// roomy: a coin whose list has spare room with something in it.
func roomy(c api.Coin) api.Coin {
	l := append(make([]api.Holding, 0, 50), c.Holds...)
	for i := len(l); i < 50; i++ {
		l[:50][i] = api.Holding{Who: who(byte(i), 99), Amount: api.U256{77}}
	}
	return api.Coin{Supply: c.Supply, Holds: l}
}

func scrawl(l []api.Holding) {
	for i := range l[:cap(l)] {
		l[:cap(l)][i] = api.Holding{Who: who(9, byte(i)), Amount: api.U256{0, 99}}
	}
}

// answers of all calls to a coin that give one.
func answers(c api.Coin) []api.Coin {
	var l []api.Coin
	for _, w := range few(c) {
		has, _ := coin.Of(c, w)
		for _, n := range []api.U256{nought, {1}, has} {
			minted, _ := coin.Mint(c, w, n)
			burnt, _ := coin.Burn(c, w, n)
			moved, _ := coin.Move(c, w, who(60, 60), n)
			back, _ := coin.Move(c, w, w, n)
			l = append(l, minted, burnt, moved, back)
		}
	}
	return l
}

// Lists are not changed, their spare room neither, and not kept; what comes out is
// shared with nothing, its spare room neither.
func TestShared(t *testing.T) {
	for _, x := range whole() {
		c := roomy(x)
		all := c.Holds[:50]
		old := slices.Clone(all)
		coin.Check(c)
		got := answers(c)
		var was []api.Coin
		for _, x := range got {
			was = append(was, api.Coin{Supply: x.Supply, Holds: slices.Clone(x.Holds)})
		}
		if !slices.Equal(all, old) {
			t.Errorf("%d holdings: changed", len(c.Holds))
		}
		scrawl(all)
		for i := range got {
			if !alike(got[i], was[i]) {
				t.Errorf("kept: %v, was %v", got[i], was[i])
			}
			scrawl(got[i].Holds)
		}
		copy(all, old)
		got = answers(c)
		for i := range got {
			if !alike(got[i], was[i]) {
				t.Errorf("%v, and then %v", was[i], got[i])
			}
			scrawl(got[i].Holds)
			if !slices.Equal(all, old) {
				t.Fatalf("%d holdings: shared with what was handed in", len(c.Holds))
			}
			for j := i + 1; j < len(got); j++ {
				if !slices.Equal(got[j].Holds, was[j].Holds) {
					t.Fatalf("answers %d and %d share their holdings", i, j)
				}
			}
		}
	}
}

func ExampleMove() {
	ann, bob := [32]byte{1}, [32]byte{2}
	c, e := coin.Mint(api.Coin{}, ann, api.U256{10})
	fmt.Println(c.Supply[0], len(c.Holds), e == api.OK)
	c, e = coin.Move(c, ann, bob, api.U256{4})
	fmt.Println(c.Supply[0], len(c.Holds), e == api.OK)
	c, e = coin.Burn(c, bob, api.U256{4})
	fmt.Println(c.Supply[0], len(c.Holds), e == api.OK)
	n, e := coin.Of(c, ann)
	fmt.Println(n[0], e == api.OK)
	_, e = coin.Burn(c, ann, api.U256{7})
	fmt.Println(e)
	// Output:
	// 10 1 true
	// 10 2 true
	// 6 1 true
	// 6 true
	// refused 13
}
