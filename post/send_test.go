package post_test

import (
	"bytes"
	"encoding/binary"
	"fmt"
	"math"
	"slices"
	"testing"

	"bascule/api"
	"bascule/post"
)

// done: a call at a post must come to this one, and be told so.
func done(t *testing.T, what string, p api.Post, x api.Call, want api.Post, wrong api.Errno) {
	t.Helper()
	got, e := post.Do(toy(), p, x)
	if !same(got, want) || e != wrong {
		t.Errorf("%s: %s, %d, want %d", what, apart(got, want), e, wrong)
	}
	if e := post.Check(got); e != api.OK {
		t.Errorf("%s: Check: %d", what, e)
	}
}

// refused: a call that leaves the post as it was.
func refused(t *testing.T, what string, p api.Post, x api.Call, want api.Errno) {
	t.Helper()
	done(t, what, p, x, p, want)
}

// told: the message that a post sends next, with this load.
func told(p api.Post, l []byte) api.Body {
	b := api.Body{Time: p.Now, Chain: p.Chain, Number: len(p.Sent), Level: 1, Load: l}
	b.Emitter[0], b.Emitter[31] = 176, byte(p.Chain)
	return b
}

func two(n int) []byte { return []byte{byte(n >> 8), byte(n)} }

// wide: the 32 bytes of a number.
func wide(a api.U256) []byte {
	var b []byte
	for _, part := range slices.Backward(a[:]) {
		b = binary.BigEndian.AppendUint64(b, part)
	}
	return b
}

// transfer: the load of one, byte by byte.
func transfer(amount, fee api.U256, token [32]byte, home int, to [32]byte, chain int) []byte {
	return bytes.Join([][]byte{{1}, wide(amount), token[:], two(home), to[:], two(chain), wide(fee)}, nil)
}

// meta: the load that says what a token is, byte by byte.
func meta(token [32]byte, home, decimals int) []byte {
	return bytes.Join([][]byte{{2}, token[:], two(home), {byte(decimals)}, make([]byte, 32)}, nil)
}

// with: a post that has said a load.
func with(p api.Post, l []byte) api.Post {
	p.Sent = append(slices.Clone(p.Sent), told(p, l))
	p.Next++
	return p
}

// sending 300 of the token at home on a chain, with a fee of 100.
func sending(chain int) api.Call {
	return api.Call{
		Kind: api.Send, Who: ann, Token: [32]byte{7}, Home: chain, Amount: api.U256{300}, Fee: api.U256{100}, To: cleo, ToChain: (chain + 1) % 3,
		Hours: -3, Paper: []byte{1, 2, 3},
	}
}

// P16.5: what is at home is locked.
func TestLock(t *testing.T) {
	for chain := range 3 {
		for _, c := range []struct {
			who               [32]byte
			amount, fee       uint64
			ann, bob, locked  uint64
			said, saidFee, to uint64
		}{
			{ann, 300, 100, 9700, 20000, 60300, 3, 1, 1},
			{ann, 300, 100, 9700, 20000, 60300, 3, 1, 2},
			{ann, 300, 0, 9700, 20000, 60300, 3, 0, 1},
			{ann, 300, 300, 9700, 20000, 60300, 3, 3, 1},
			{ann, 100, 0, 9900, 20000, 60100, 1, 0, 2},
			{ann, 10000, 9900, 0, 20000, 70000, 100, 99, 2},
			{bob, 20000, 100, 10000, 0, 80000, 200, 1, 1},
			{bob, 19900, 100, 10000, 100, 79900, 199, 1, 1},
		} {
			p, x := stand(chain), sending(chain)
			x.Who, x.Amount[0], x.Fee[0], x.ToChain = c.who, c.amount, c.fee, (chain+int(c.to))%3
			want := with(p, transfer(api.U256{c.said}, api.U256{c.saidFee}, [32]byte{7}, chain, cleo, x.ToChain))
			want.Assets = slices.Clone(want.Assets)
			want.Assets[chain].Coin = hold(c.locked, c.ann, c.bob)
			want.Assets[chain].Coin.Holds = slices.DeleteFunc(want.Assets[chain].Coin.Holds, func(h api.Holding) bool { return h.Amount == nought })
			done(t, fmt.Sprint(c), p, x, want, api.OK)
		}
	}
}

// P16.5: what is at home elsewhere is burnt, wherever it is sent.
func TestBurn(t *testing.T) {
	for chain := range 3 {
		for _, home := range []int{(chain + 1) % 3, (chain + 2) % 3} {
			for _, to := range []int{(chain + 1) % 3, (chain + 2) % 3} {
				for n := range 41 {
					p, x := stand(chain), sending(chain)
					x.Home, x.ToChain, x.Amount, x.Fee = home, to, api.U256{uint64(n)}, api.U256{uint64(n / 3)}
					if n == 0 {
						refused(t, "nothing", p, x, api.ErrFunds)
						continue
					}
					want := with(p, transfer(x.Amount, x.Fee, [32]byte{7}, home, cleo, to))
					want.Assets = slices.Clone(want.Assets)
					want.Assets[home].Coin = hold(0, uint64(40-n), 50)
					if n == 40 {
						want.Assets[home].Coin.Holds = want.Assets[home].Coin.Holds[1:]
					}
					done(t, fmt.Sprint(n, " of ", home, " from ", chain, " to ", to), p, x, want, api.OK)
				}
				p, x := stand(chain), sending(chain)
				x.Home, x.ToChain, x.Amount, x.Fee = home, to, api.U256{41}, api.U256{}
				refused(t, "more than there is", p, x, api.ErrFunds)
			}
		}
	}
}

// P16.5: assets by both their token and their home.
func TestWhichAsset(t *testing.T) {
	for chain := range 3 {
		for _, home := range append(outside(2), 3, 256, 257, 65536) {
			x := sending(chain)
			x.Home = home
			refused(t, fmt.Sprint("home ", home), stand(chain), x, api.ErrNone)
		}
		for i := range 32 {
			x := sending(chain)
			x.Token[i] ^= 0x40
			refused(t, fmt.Sprint("token by byte ", i), stand(chain), x, api.ErrNone)
		}
		p, x := stand(chain), sending(chain)
		p.Assets = slices.Delete(p.Assets, chain, chain+1)
		refused(t, "no more an asset", p, x, api.ErrNone)
		p.Assets = nil
		refused(t, "no assets", p, x, api.ErrNone)
		// The last one of four is found, and it alone is changed.
		p = stand(chain)
		p.Assets = append(p.Assets, api.Asset{Token: [32]byte{7, 1}, Home: chain, Coin: hold(0, 5)})
		x.Token, x.Amount, x.Fee = [32]byte{7, 1}, api.U256{2}, api.U256{1}
		want := with(p, transfer(x.Amount, x.Fee, x.Token, chain, cleo, x.ToChain))
		want.Assets = slices.Clone(want.Assets)
		want.Assets[3].Coin = hold(2, 3)
		done(t, "the last one", p, x, want, api.OK)
	}
}

// P16.5: no chain, or this one.
func TestWhere(t *testing.T) {
	for chain := range 3 {
		for _, to := range append(outside(2), chain, chain+256, 65536, 1<<32+(chain+1)%3) {
			for home := range 3 {
				x := sending(chain)
				x.Home, x.ToChain = home, to
				refused(t, fmt.Sprint("to ", to), stand(chain), x, api.ErrRange)
			}
		}
	}
}

// P16.5: amounts and fees that may not be sent.
func TestAmounts(t *testing.T) {
	for _, c := range []struct {
		who         [32]byte
		amount, fee api.U256
		want        api.Errno
	}{
		{ann, nought, nought, api.ErrFunds},
		{ann, nought, api.U256{100}, api.ErrFunds},
		{ann, api.U256{300}, api.U256{301}, api.ErrFunds},
		{ann, api.U256{300}, api.U256{400}, api.ErrFunds},
		{ann, api.U256{300}, api.U256{0, 1}, api.ErrFunds},
		{ann, api.U256{300}, highest, api.ErrFunds},
		{ann, api.U256{301}, api.U256{400}, api.ErrFunds},
		{vault, api.U256{300}, api.U256{100}, api.ErrFunds},
		{vault, api.U256{301}, api.U256{100}, api.ErrFunds},
		{vault, api.U256{300}, api.U256{101}, api.ErrFunds},
		{ann, api.U256{1}, nought, api.ErrDust},
		{ann, api.U256{99}, nought, api.ErrDust},
		{ann, api.U256{101}, nought, api.ErrDust},
		{ann, api.U256{10001}, nought, api.ErrDust},
		{ann, api.U256{301}, api.U256{101}, api.ErrDust},
		{ann, api.U256{300}, api.U256{1}, api.ErrDust},
		{ann, api.U256{300}, api.U256{299}, api.ErrDust},
		{cleo, api.U256{300}, api.U256{299}, api.ErrDust},
		{ann, highest, nought, api.ErrDust},
		{ann, api.U256{0, 1}, nought, api.ErrDust},
		{ann, api.U256{0, 100}, nought, api.ErrFunds},
		{ann, api.U256{0, 100}, api.U256{1}, api.ErrFunds},
		{ann, api.U256{0, 99}, api.U256{1}, api.ErrDust},
		{ann, api.U256{0, 0, 0, 100}, api.U256{0, 0, 0, 100}, api.ErrFunds},
		{ann, api.U256{10100}, nought, api.ErrFunds},
		{bob, api.U256{20100}, nought, api.ErrFunds},
		{cleo, api.U256{100}, nought, api.ErrFunds},
		{[32]byte{}, api.U256{100}, nought, api.ErrFunds},
	} {
		for chain := range 3 {
			x := sending(chain)
			x.Who, x.Amount, x.Fee = c.who, c.amount, c.fee
			refused(t, fmt.Sprint(c), stand(chain), x, c.want)
		}
	}
	// What the Vault holds of a token of another chain it does not send either.
	p := stand(1)
	p.Assets[0].Coin = hold(50, 40)
	x := sending(1)
	x.Who, x.Home, x.Amount, x.Fee = vault, 0, api.U256{5}, nought
	refused(t, "out of the vault elsewhere", p, x, api.ErrFunds)
}

// rich: a post on chain 0 where somebody has this much of a token with these decimals,
// and so much is locked.
func rich(decimals int, has, locked api.U256) api.Post {
	p := api.Post{Now: 9, Sets: setsOf(1)}
	c := hold(1, 1)
	c.Holds[0].Amount, c.Holds[1].Amount = has, locked
	carry := uint64(0)
	for i := range c.Supply {
		sum := has[i] + carry
		over := sum < carry
		c.Supply[i] = sum + locked[i]
		if carry = 0; over || c.Supply[i] < sum {
			carry = 1
		}
	}
	if locked == nought {
		c.Holds = c.Holds[:1]
	}
	p.Assets = []api.Asset{{Token: [32]byte{7}, Decimals: decimals, Coin: c}}
	return p
}

// P16.5: amounts at 2^64, and a vault that comes up to it, without their decimals.
func TestNarrow(t *testing.T) {
	for _, c := range []struct {
		decimals    int
		has, locked api.U256
		amount, fee api.U256
		want        api.Errno
		said        api.U256
	}{
		{8, api.U256{0, 3}, nought, api.U256{full}, nought, api.OK, api.U256{full}},
		{8, api.U256{0, 3}, nought, api.U256{full}, api.U256{full}, api.OK, api.U256{full}},
		{8, api.U256{0, 3}, nought, api.U256{0, 1}, nought, api.ErrFunds, nought},
		{8, api.U256{0, 3}, nought, api.U256{1, 1}, nought, api.ErrFunds, nought},
		{8, api.U256{0, 3}, nought, api.U256{5, 0, 1}, nought, api.ErrFunds, nought},
		{8, api.U256{0, 3}, nought, api.U256{5, 0, 0, 1}, nought, api.ErrFunds, nought},
		{0, api.U256{0, 3}, nought, api.U256{full}, nought, api.OK, api.U256{full}},
		{0, api.U256{0, 3}, nought, api.U256{0, 1}, nought, api.ErrFunds, nought},
		{9, api.U256{0, 30}, nought, api.U256{full - 9, 9}, nought, api.OK, api.U256{full}},
		{9, api.U256{0, 30}, nought, api.U256{0, 10}, nought, api.ErrFunds, nought},
		{9, api.U256{0, 30}, nought, api.U256{full - 8, 9}, nought, api.ErrDust, nought},
		{9, api.U256{0, 30}, nought, api.U256{9, 10}, nought, api.ErrDust, nought},
		{10, api.U256{0, 300}, nought, api.U256{full - 99, 99}, nought, api.OK, api.U256{full}},
		{10, api.U256{0, 300}, nought, api.U256{0, 100}, nought, api.ErrFunds, nought},
		{10, api.U256{0, 300}, nought, api.U256{100, 100}, nought, api.ErrFunds, nought},
		// In the vault.
		{8, api.U256{9}, api.U256{full - 9}, api.U256{9}, nought, api.OK, api.U256{9}},
		{8, api.U256{9}, api.U256{full - 8}, api.U256{9}, nought, api.ErrFull, nought},
		{8, api.U256{9}, api.U256{full - 8}, api.U256{8}, nought, api.OK, api.U256{8}},
		{8, api.U256{9}, api.U256{0, 1}, api.U256{1}, nought, api.ErrFull, nought},
		{8, api.U256{9}, api.U256{0, 0, 0, 1}, api.U256{1}, nought, api.ErrFull, nought},
		{8, api.U256{9}, api.U256{0, 1}, api.U256{10}, nought, api.ErrFunds, nought},
		{10, api.U256{900}, api.U256{full - 199, 99}, api.U256{100}, nought, api.OK, api.U256{1}},
		{10, api.U256{900}, api.U256{full - 199, 99}, api.U256{200}, nought, api.ErrFull, nought},
		{10, api.U256{900}, api.U256{full - 100, 99}, api.U256{100}, nought, api.OK, api.U256{1}},
		{10, api.U256{900}, api.U256{full - 99, 99}, api.U256{100}, nought, api.ErrFull, nought},
		{10, api.U256{900}, api.U256{full, 99}, api.U256{100}, nought, api.ErrFull, nought},
		{10, api.U256{900}, api.U256{77}, api.U256{100}, api.U256{100}, api.OK, api.U256{1}},
	} {
		p := rich(c.decimals, c.has, c.locked)
		x := api.Call{Kind: api.Send, Who: ann, Token: [32]byte{7}, Amount: c.amount, Fee: c.fee, ToChain: 2}
		if c.want != api.OK {
			refused(t, fmt.Sprint(c), p, x, c.want)
			continue
		}
		got, e := post.Do(toy(), p, x)
		saidFee := nought
		if c.fee != nought {
			saidFee = c.said
		}
		if e != api.OK || !same(api.Post{Sent: got.Sent}, api.Post{Sent: with(p, transfer(c.said, saidFee, [32]byte{7}, 0, [32]byte{}, 2)).Sent}) {
			t.Errorf("%v: %s, %d", c, apart(got, p), e)
		}
	}
	// All decimals that there may be: 2 times 10 to the 69th is 2.
	big := api.U256{9}
	for range 69 {
		carry := uint64(0)
		for i := range big {
			hi, lo := mul(big[i], 10, carry)
			big[i], carry = lo, hi
		}
	}
	p := rich(77, big, nought)
	x := api.Call{Kind: api.Send, Who: ann, Token: [32]byte{7}, Amount: big, ToChain: 1}
	want := with(p, transfer(api.U256{9}, nought, [32]byte{7}, 0, [32]byte{}, 1))
	want.Assets = []api.Asset{{Token: [32]byte{7}, Decimals: 77, Coin: api.Coin{Supply: big, Holds: []api.Holding{{Who: vault, Amount: big}}}}}
	done(t, "77 decimals", p, x, want, api.OK)
	x.Amount[0]--
	refused(t, "77 decimals with dust", p, x, api.ErrDust)
}

// mul: a times b and what is carried.
func mul(a, b, carry uint64) (high, low uint64) {
	l, h := (a&0xffffffff)*b+carry, (a>>32)*b
	h += l >> 32
	return h >> 32, h<<32 | l&0xffffffff
}

// P16.5: a vault without limit where the token is not at home, and what is burnt there
// though many hold it.
func TestNoVault(t *testing.T) {
	p := rich(8, api.U256{500}, api.U256{0, 0, 1})
	p.Assets[0].Home = 2
	x := api.Call{Kind: api.Send, Who: ann, Token: [32]byte{7}, Home: 2, Amount: api.U256{500}, ToChain: 2}
	want := with(p, transfer(x.Amount, nought, x.Token, 2, [32]byte{}, 2))
	want.Assets = []api.Asset{{Token: [32]byte{7}, Home: 2, Decimals: 8, Coin: api.Coin{Supply: api.U256{0, 0, 1}, Holds: []api.Holding{{Who: vault, Amount: api.U256{0, 0, 1}}}}}}
	done(t, "burnt beside a great vault", p, x, want, api.OK)
}

// P16.5: no room for the vault's holding.
func TestHoldsFull(t *testing.T) {
	p := rich(8, nought, nought)
	p.Assets[0].Coin = crowd(40)
	x := api.Call{Kind: api.Send, Who: ann, Token: [32]byte{7}, Amount: api.U256{999}, ToChain: 1}
	refused(t, "40 and a vault", p, x, api.ErrFull)
	x.Amount[0] = 1001
	refused(t, "40, and more than one has", p, x, api.ErrFunds)
	x.Amount[0] = 1000
	want := with(p, transfer(x.Amount, nought, x.Token, 0, [32]byte{}, 1))
	want.Assets = slices.Clone(p.Assets)
	c := crowd(40)
	c.Holds = append(c.Holds[1:], api.Holding{Who: vault, Amount: api.U256{1000}})
	want.Assets[0].Coin = c
	done(t, "all of one of 40", p, x, want, api.OK)
	p.Assets[0].Home = 1
	x.Amount[0], x.Home = 999, 1
	if _, e := post.Do(toy(), p, x); e != api.OK {
		t.Errorf("burnt of 40: %d", e)
	}
}

// fault of a call: what is wrong, how it comes to be, and what it is refused with.
type fault[T any] struct {
	what string
	make func(x *T)
	want api.Errno
}

// P16.5: of all that is wrong with a call what is named first is told.
func TestSendOrder(t *testing.T) {
	type scene struct {
		p api.Post
		x api.Call
	}
	faults := []fault[scene]{
		{"token", func(s *scene) { s.x.Token[9] = 1 }, api.ErrNone},
		{"home", func(s *scene) { s.x.Home = 3 }, api.ErrNone},
		{"to none", func(s *scene) { s.x.ToChain = 3 }, api.ErrRange},
		{"to this one", func(s *scene) { s.x.ToChain = 0 }, api.ErrRange},
		{"no amount", func(s *scene) { s.x.Amount = nought }, api.ErrFunds},
		{"great fee", func(s *scene) { s.x.Fee = highest }, api.ErrFunds},
		{"of the vault", func(s *scene) { s.x.Who = vault }, api.ErrFunds},
		{"dust", func(s *scene) { s.x.Amount[0] += 7 }, api.ErrDust},
		{"great amount", func(s *scene) { s.x.Amount = api.U256{0, 100} }, api.ErrFunds},
		{"dust of fee", func(s *scene) { s.x.Fee[0] += 7 }, api.ErrDust},
		{"of nobody", func(s *scene) { s.x.Who = cleo }, api.ErrFunds},
		{"great vault", func(s *scene) { s.p.Assets[0].Coin = rich(10, api.U256{1000}, api.U256{0, 200}).Assets[0].Coin }, api.ErrFull},
		{"all sent", func(s *scene) { s.p.Sent, s.p.Next = great(0).Sent, 256 }, api.ErrFull},
	}
	for i, f := range faults {
		for _, g := range faults[i:] {
			s := scene{stand(0), sending(0)}
			s.x.Amount[0] = 1000
			g.make(&s)
			f.make(&s)
			refused(t, f.what+" and "+g.what, s.p, s.x, f.want)
		}
	}
}

// P16.5: one message behind another, by rising numbers, until there are all.
func TestSent(t *testing.T) {
	for chain := range 3 {
		p := stand(chain)
		p.Sent, p.Next, p.Assets[chain].Coin = nil, 0, hold(5, 20000)
		for n := range 256 {
			x := sending(chain)
			x.Home, x.Amount, x.Fee = chain, api.U256{100}, nought
			if n%2 == 1 {
				x = api.Call{Kind: api.Tell, Token: x.Token}
			}
			if n%50 == 49 {
				p.Now += n
			}
			q, e := post.Do(toy(), p, x)
			l := meta([32]byte{7}, chain, 10)
			if n%2 == 0 {
				l = transfer(api.U256{1}, nought, [32]byte{7}, chain, cleo, x.ToChain)
			}
			want := with(p, l)
			if !same(api.Post{Next: q.Next, Sent: q.Sent}, api.Post{Next: n + 1, Sent: want.Sent}) || e != api.OK {
				t.Fatalf("message %d: %s, %d", n, apart(q, want), e)
			}
			p = q
		}
		for _, kind := range []int{api.Send, api.Tell} {
			x := sending(chain)
			x.Kind = kind
			refused(t, "one more", p, x, api.ErrFull)
			x.Token[1] = 1
			refused(t, "one more of none", p, x, api.ErrNone)
		}
	}
}

// P16.7: what a token is.
func TestTell(t *testing.T) {
	for chain := range 3 {
		for _, decimals := range []int{0, 1, 8, 9, 18, 76, 77} {
			p := stand(chain)
			p.Assets[chain].Decimals = decimals
			p.Assets = append(p.Assets, api.Asset{Token: [32]byte{9}, Home: (chain + 1) % 3, Decimals: 3})
			// Nothing but the token counts, Home neither.
			for _, home := range []int{0, 1, 2, -1, 77} {
				x := api.Call{Kind: api.Tell, Who: ann, Token: [32]byte{7}, Home: home, Amount: api.U256{5}, Fee: highest, To: bob, ToChain: chain, Hours: 3, Paper: []byte{9}}
				done(t, fmt.Sprint("decimals ", decimals), p, x, with(p, meta([32]byte{7}, chain, decimals)), api.OK)
				x.Token = [32]byte{9}
				refused(t, "of another chain", p, x, api.ErrNone)
				x.Token = [32]byte{7, 31: 1}
				refused(t, "of none", p, x, api.ErrNone)
			}
		}
		p := stand(chain)
		p.Assets = slices.Delete(p.Assets, chain, chain+1)
		refused(t, "at home elsewhere", p, api.Call{Kind: api.Tell, Token: [32]byte{7}}, api.ErrNone)
		p = great(chain)
		refused(t, "all sent", p, api.Call{Kind: api.Tell, Token: [32]byte{31: 1}}, api.ErrFull)
		refused(t, "all sent, and no token", p, api.Call{Kind: api.Tell, Token: [32]byte{31: 2}}, api.ErrNone)
	}
}

// P16.7: hours pass.
func TestWait(t *testing.T) {
	for chain := range 3 {
		for _, c := range []struct {
			now, hours int
			want       api.Errno
		}{
			{1, 1, api.OK}, {1, 2, api.OK}, {1, 1000, api.OK}, {500, 999, api.OK}, {latest - 1000, 1000, api.OK}, {latest - 1, 1, api.OK},
			{1, 0, api.ErrRange}, {1, -1, api.ErrRange}, {1, 1001, api.ErrRange}, {500, -499, api.ErrRange}, {latest, 0, api.ErrRange},
			{latest, 1, api.ErrRange}, {latest, 1000, api.ErrRange}, {latest - 999, 1000, api.ErrRange}, {latest - 1, 2, api.ErrRange},
			{1, math.MaxInt, api.ErrRange}, {latest, math.MaxInt, api.ErrRange}, {1, math.MinInt, api.ErrRange}, {latest, math.MinInt, api.ErrRange},
			{1, 1<<32 + 1, api.ErrRange}, {1, 257 * 256, api.ErrRange}, {1, latest - 1, api.ErrRange},
		} {
			p := stand(chain)
			p.Now = c.now
			x := sending(chain)
			x.Kind, x.Hours = api.Wait, c.hours
			want := p
			if c.want == api.OK {
				want.Now = c.now + c.hours
			}
			done(t, fmt.Sprint(c), p, x, want, c.want)
		}
		p := great(chain)
		p.Now = 3
		want := p
		want.Now = 4
		done(t, "when all is full", p, api.Call{Kind: api.Wait, Hours: 1}, want, api.OK)
	}
}

// What counts for no call but a Take: the curve.
func TestNoCurve(t *testing.T) {
	for _, x := range []api.Call{sending(0), {Kind: api.Tell, Token: [32]byte{7}}, {Kind: api.Wait, Hours: 5}} {
		p, e := post.Do(toy(), stand(0), x)
		q, f := post.Do(api.Curve{}, stand(0), x)
		if !same(p, q) || e != api.OK || f != api.OK {
			t.Errorf("kind %d: %s, %d and %d", x.Kind, apart(q, p), e, f)
		}
	}
}
