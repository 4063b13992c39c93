package post_test

import (
	"bytes"
	"fmt"
	"slices"
	"testing"

	"bascule/api"
	"bascule/paper"
	"bascule/post"
	"bascule/sign"
)

// scene: what a paper is made of, and the post to which somebody brings it.
type scene struct {
	curve  api.Curve
	post   api.Post
	set    int
	who    []int    // places of those who sign,
	by     []uint64 // and their secrets
	body   api.Body
	change func(b []byte) []byte // the paper's bytes at the end
}

// all who are in a set sign.
func (s *scene) all(set int) {
	s.set, s.who, s.by = set, nil, secrets(set)
	for i := range s.by {
		s.who = append(s.who, i)
	}
}

// leave out who signs at a place.
func (s *scene) leave(at int) {
	s.who, s.by = slices.Delete(slices.Clone(s.who), at, at+1), slices.Delete(slices.Clone(s.by), at, at+1)
}

// paper of the scene.
func (s *scene) paper() []byte {
	x := api.Paper{Set: s.set, Body: s.body}
	h, e := paper.Sum(s.body)
	if e != api.OK {
		panic(e)
	}
	for i, d := range s.by {
		y, e := sign.Make(toy(), api.U256{d}, h)
		if e != api.OK {
			panic(e)
		}
		x.Signs = append(x.Signs, api.Signed{Who: s.who[i], Sign: y})
	}
	b, e := paper.Encode(x)
	if e != api.OK {
		panic(e)
	}
	if s.change != nil {
		b = s.change(b)
	}
	return b
}

// call of who brings the paper; what else it says counts not.
func (s *scene) call() api.Call {
	return api.Call{Kind: api.Take, Who: bob, Paper: s.paper(), Token: [32]byte{1}, Home: 9, Amount: highest, Fee: highest, To: vault, ToChain: -4, Hours: -7}
}

// done: the paper must bring the post to this one, and be told so.
func (s *scene) done(t *testing.T, what string, want api.Post, wrong api.Errno) {
	t.Helper()
	got, e := post.Do(s.curve, s.post, s.call())
	if !same(got, want) || e != wrong {
		t.Errorf("%s: %s, %d, want %d", what, apart(got, want), e, wrong)
	}
	if e := post.Check(got); e != api.OK {
		t.Errorf("%s: Check: %d", what, e)
	}
}

func (s *scene) refused(t *testing.T, what string, want api.Errno) {
	t.Helper()
	s.done(t, what, s.post, want)
}

// from: a scene at a chain's post, with a message of another chain.
func from(chain, at, number int, l []byte) scene {
	s := scene{curve: toy(), post: stand(at), body: api.Body{Time: 3, Nonce: 4, Chain: chain, Emitter: post.Emitter(chain), Number: number, Level: 5, Load: l}}
	s.all(2)
	return s
}

// passed: a post that has seen a number of a chain.
func passed(p api.Post, chain, number int) api.Post {
	p.Seen[chain][number/64] |= 1 << (number % 64)
	return p
}

// paid: the load by which 5 of a token come with a fee of 2.
func paid(home, to int) []byte {
	return transfer(api.U256{5}, api.U256{2}, [32]byte{7}, home, cleo, to)
}

// coins of who is paid, by rising names: cleo, ann, bob, the vault.
func coins(cleoHas, annHas, bobHas, locked uint64) api.Coin {
	var c api.Coin
	for i, n := range []uint64{cleoHas, annHas, bobHas, locked} {
		if n > 0 {
			c.Holds = append(c.Holds, api.Holding{Who: [][32]byte{cleo, ann, bob, vault}[i], Amount: api.U256{n}})
			c.Supply[0] += n
		}
	}
	return c
}

// pass: the load of a transfer as one with so many bytes behind it.
func pass(l []byte, n int) []byte {
	l = append(slices.Clone(l), make([]byte, n)...)
	l[0] = 3
	return l
}

// P16.6: what is paid where the token is at home, and elsewhere.
func TestPaid(t *testing.T) {
	for at := range 3 {
		for _, chain := range []int{(at + 1) % 3, (at + 2) % 3} {
			for home := range 3 {
				for n, l := range [][]byte{paid(home, at), pass(paid(home, at), 0), pass(paid(home, at), 1), pass(paid(home, at), 100)} {
					s := from(chain, at, 70, l)
					want := passed(deep(s.post), chain, 70)
					want.Assets[home].Coin = coins(3, 40, 52, 0)
					if home == at {
						want.Assets[home].Coin = coins(300, 10000, 20200, 59500)
					}
					s.done(t, fmt.Sprint("load ", n, " of ", home, " from ", chain, " to ", at), want, api.OK)
				}
			}
		}
	}
}

// P16.6: who is paid what.
func TestWhoIsPaid(t *testing.T) {
	for _, c := range []struct {
		home, amount, fee uint64
		to, who           [32]byte
		want              api.Coin
	}{
		{1, 5, 2, bob, ann, coins(0, 42, 53, 0)},
		{1, 5, 2, ann, ann, coins(0, 45, 50, 0)},
		{1, 5, 0, cleo, bob, coins(5, 40, 50, 0)},
		{1, 5, 5, cleo, bob, coins(0, 40, 55, 0)},
		{1, 0, 0, cleo, bob, coins(0, 40, 50, 0)},
		{1, 5, 2, vault, ann, coins(0, 42, 50, 3)},
		{1, 5, 2, cleo, vault, coins(3, 40, 50, 2)},
		{1, 5, 2, vault, vault, coins(0, 40, 50, 5)},
		{0, 5, 2, bob, ann, coins(0, 10200, 20300, 59500)},
		{0, 5, 2, bob, bob, coins(0, 10000, 20500, 59500)},
		{0, 5, 0, cleo, bob, coins(500, 10000, 20000, 59500)},
		{0, 5, 5, cleo, bob, coins(0, 10000, 20500, 59500)},
		{0, 0, 0, cleo, bob, coins(0, 10000, 20000, 60000)},
		{0, 5, 2, vault, ann, coins(0, 10200, 20000, 59800)},
		{0, 5, 2, cleo, vault, coins(300, 10000, 20000, 59700)},
		{0, 600, 0, vault, vault, coins(0, 10000, 20000, 60000)},
		{0, 600, 2, cleo, bob, coins(59800, 10000, 20200, 0)},
		{0, 600, 600, cleo, cleo, coins(60000, 10000, 20000, 0)},
	} {
		s := from(2, 0, 0, transfer(api.U256{c.amount}, api.U256{c.fee}, [32]byte{7}, int(c.home), c.to, 0))
		x := s.call()
		x.Who = c.who
		want := passed(deep(s.post), 2, 0)
		want.Assets[c.home].Coin = c.want
		done(t, fmt.Sprint(c), s.post, x, want, api.OK)
	}
}

// P16.6: what can't be paid.
func TestNotPaid(t *testing.T) {
	pay := func(decimals int, c api.Coin, home int, amount, fee api.U256) scene {
		s := from(2, 0, 0, transfer(amount, fee, [32]byte{7}, home, cleo, 0))
		s.post.Assets = []api.Asset{{Token: [32]byte{7}, Home: home, Decimals: decimals, Coin: c}}
		return s
	}
	refused := func(what string, s scene, want api.Errno) {
		t.Helper()
		s.refused(t, what, want)
	}
	// Out of the vault.
	refused("more than is locked", pay(8, coins(0, 9, 9, 100), 0, api.U256{101}, nought), api.ErrFunds)
	refused("more than is locked with the fee", pay(8, coins(0, 9, 9, 100), 0, api.U256{101}, api.U256{1}), api.ErrFunds)
	refused("more than is locked by decimals", pay(9, coins(0, 9, 9, 109), 0, api.U256{11}, nought), api.ErrFunds)
	refused("of nothing", pay(8, coins(0, 9, 9, 0), 0, api.U256{1}, nought), api.ErrFunds)
	refused("far more than is locked", pay(8, coins(0, 9, 9, 100), 0, highest, nought), api.ErrFunds)
	l := crowd(39)
	l.Holds = append(l.Holds, api.Holding{Who: vault, Amount: api.U256{100}})
	l.Supply[0] += 100
	refused("no room for one more", pay(8, l, 0, api.U256{100}, api.U256{1}), api.ErrFull)
	s := pay(8, l, 0, api.U256{100}, nought)
	want := passed(deep(s.post), 2, 0)
	want.Assets[0].Coin.Holds = slices.Insert(slices.Clone(l.Holds[:39]), 0, api.Holding{Who: cleo, Amount: api.U256{100}})
	s.done(t, "all of the vault", want, api.OK)
	// Newly made.
	most := api.Coin{Supply: api.U256{full - 9, full, full, full}, Holds: []api.Holding{{Who: ann, Amount: api.U256{full - 9, full, full, full}}}}
	refused("above all supply", pay(8, most, 1, api.U256{10}, nought), api.ErrFunds)
	refused("above all supply with the fee", pay(8, most, 1, api.U256{10}, api.U256{1}), api.ErrFunds)
	refused("far above all supply", pay(8, most, 1, highest, highest), api.ErrFunds)
	s = pay(8, most, 1, api.U256{9}, api.U256{1})
	want = passed(deep(s.post), 2, 0)
	want.Assets[0].Coin = api.Coin{Supply: highest, Holds: []api.Holding{{Who: cleo, Amount: api.U256{8}}, most.Holds[0], {Who: bob, Amount: api.U256{1}}}}
	s.done(t, "up to all supply", want, api.OK)
	refused("no room for a holding", pay(8, crowd(40), 1, api.U256{10}, nought), api.ErrFull)
	refused("no room, and above all supply", pay(8, crowd(40), 1, highest, nought), api.ErrFunds)
	s = pay(8, crowd(40), 1, api.U256{10}, api.U256{10})
	want = passed(deep(s.post), 2, 0)
	want.Assets[0].Coin.Holds[1].Amount[0] += 10
	want.Assets[0].Coin.Supply[0] += 10
	s.done(t, "the fee alone has room", want, api.OK)
	l = crowd(40)
	l.Holds = slices.Delete(l.Holds, 1, 2)
	l.Supply[0] -= 1000
	refused("room for one alone", pay(8, l, 1, api.U256{10}, api.U256{1}), api.ErrFull)
	// With decimals.
	refused("above 2^256 with them", pay(9, coins(0, 9, 9, 9), 0, api.U256{0, 0, 0, 1 << 61}, nought), api.ErrFunds)
	refused("all with all of them", pay(77, coins(0, 9, 9, 9), 0, highest, highest), api.ErrFunds)
}

// P16.6: an amount gets the asset's decimals again, at home and elsewhere.
func TestDecimals(t *testing.T) {
	// The last one is 5 times 10 to the 19th.
	for decimals, want := range map[int]api.U256{0: {5}, 7: {5}, 8: {5}, 9: {50}, 10: {500}, 11: {5000}, 27: {13106511852580896768, 2}} {
		s := from(1, 0, 9, transfer(api.U256{5}, nought, [32]byte{7}, 0, cleo, 0))
		s.post = rich(decimals, api.U256{1}, want)
		s.all(0)
		after := passed(deep(s.post), 1, 9)
		after.Assets[0].Coin.Holds = []api.Holding{{Who: cleo, Amount: want}, {Who: ann, Amount: api.U256{1}}}
		s.done(t, fmt.Sprint("decimals ", decimals), after, api.OK)
		if decimals <= 8 {
			s = from(1, 0, 9, transfer(api.U256{5}, nought, [32]byte{7}, 2, cleo, 0))
			s.post.Assets[2].Decimals = decimals
			after = passed(deep(s.post), 1, 9)
			after.Assets[2].Coin = coins(5, 40, 50, 0)
			s.done(t, fmt.Sprint("decimals elsewhere ", decimals), after, api.OK)
		}
	}
}

// P16.6: a token of the chain that tells of it.
func TestMeta(t *testing.T) {
	for at := range 3 {
		for _, chain := range []int{(at + 1) % 3, (at + 2) % 3} {
			for decimals, few := range map[int]int{0: 0, 1: 1, 7: 7, 8: 8, 9: 8, 18: 8, 77: 8} {
				l := meta([32]byte{9}, chain, decimals)
				copy(l[36:], "coin")
				s := from(chain, at, 200-decimals, l)
				want := passed(deep(s.post), chain, s.body.Number)
				want.Assets = append(want.Assets, api.Asset{Token: [32]byte{9}, Home: chain, Decimals: few})
				s.done(t, fmt.Sprint("decimals ", decimals), want, api.OK)
				// And on a post without any assets.
				s.post.Assets = nil
				want.Assets = want.Assets[3:]
				s.done(t, fmt.Sprint("alone, decimals ", decimals), want, api.OK)
			}
			for _, home := range []int{at, 3 - at - chain, 3, 256 + chain, 65535} {
				s := from(chain, at, 2, meta([32]byte{9}, home, 3))
				s.refused(t, fmt.Sprint("home ", home), api.ErrNone)
				s.post.Assets = assets(at, 4)
				s.refused(t, fmt.Sprint("home of four ", home), api.ErrNone)
			}
			s := from(chain, at, 2, meta([32]byte{7}, chain, 3))
			s.refused(t, "twice", api.ErrTwice)
			s.post.Assets = append(s.post.Assets, api.Asset{Token: [32]byte{8}, Home: at})
			s.refused(t, "twice and full", api.ErrTwice)
			s = from(chain, at, 2, meta([32]byte{8}, chain, 3))
			s.post.Assets = append(s.post.Assets, api.Asset{Token: [32]byte{8}, Home: at})
			s.refused(t, "full", api.ErrFull)
			s.post.Assets = s.post.Assets[1:]
			want := passed(deep(s.post), chain, 2)
			want.Assets = append(want.Assets, api.Asset{Token: [32]byte{8}, Home: chain, Decimals: 3})
			s.done(t, "the fourth one", want, api.OK)
		}
	}
}

// turning: a scene with a new set of keys.
func turning(at, index int, l []api.Key) scene {
	s := from(0, at, 12, bytes.Join([][]byte{{4, byte(index >> 24), byte(index >> 16)}, two(index), {byte(len(l))}}, nil))
	for _, k := range l {
		s.body.Load = append(s.body.Load, k[:]...)
	}
	s.body.Emitter = post.Ruler()
	s.post.Now = 180
	if len(s.body.Load) > api.MaxLoad {
		panic("so many keys have no room in a message")
	}
	return s
}

// P16.6: new sets of keys.
func TestTurn(t *testing.T) {
	l := keys(29, 3, 17)
	for at := range 3 {
		for _, number := range []int{0, 5, 256, 1 << 40} {
			s := turning(at, 3, l)
			s.body.Number = number
			want := deep(s.post)
			want.Sets[2].Until = 204
			want.Sets = append(want.Sets, api.Set{Index: 3, Keys: l})
			s.done(t, fmt.Sprint("number ", number), want, api.OK)
			// Twice it is no more the next one.
			s.post = want
			s.refused(t, "twice", api.ErrRange)
			s.all(1)
			s.body.Load = slices.Clone(s.body.Load)
			s.body.Load[4] = 4
			s.post.Now = 199
			want = deep(s.post)
			want.Sets[3].Until = 223
			want.Sets = append(want.Sets, api.Set{Index: 4, Keys: l})
			s.done(t, "by a set that is over soon", want, api.OK)
		}
		for _, index := range []int{0, 1, 2, 4, 5, 8, 259, 1<<32 - 1, 1<<24 + 3} {
			s := turning(at, index, l)
			s.refused(t, fmt.Sprint("index ", index), api.ErrRange)
		}
		s := turning(at, 3, keys(1, 2, 1))
		s.refused(t, "a key twice", api.ErrTwice)
		s = turning(at, 8, l)
		s.post.Sets = setsOf(8)
		s.post.Sets[7].Until, s.post.Now = 0, 750
		s.all(7)
		s.refused(t, "full", api.ErrFull)
		s = turning(at, 8, keys(1, 1))
		s.post.Sets, s.post.Now = setsOf(8), 750
		s.all(7)
		s.refused(t, "full, and a key twice", api.ErrTwice)
		for now, want := range map[int]api.Errno{175: api.ErrRange, 176: api.OK, 177: api.OK} {
			s = turning(at, 3, l)
			s.post.Now = now
			if _, e := post.Do(toy(), s.post, s.call()); e != want {
				t.Errorf("at %d: %d, want %d", now, e, want)
			}
		}
		s = turning(at, 3, keys(4, 5, 6, 7, 8, 9, 10, 11, 12, 13, 14, 15, 16, 17))
		want := deep(s.post)
		want.Sets[2].Until = 204
		want.Sets = append(want.Sets, api.Set{Index: 3, Keys: keys(4, 5, 6, 7, 8, 9, 10, 11, 12, 13, 14, 15, 16, 17)})
		s.done(t, "many keys", want, api.OK)
	}
}

// P16.6: messages that come from nowhere, from here, or from somebody else.
func TestSource(t *testing.T) {
	for at := range 3 {
		other := (at + 1) % 3
		for kind, l := range [][]byte{paid(at, at), pass(paid(at, at), 2), meta([32]byte{9}, other, 3)} {
			for what, change := range map[string]func(b *api.Body){
				"here":              func(b *api.Body) { b.Chain, b.Emitter = at, post.Emitter(at) },
				"chain 3":           func(b *api.Body) { b.Chain, b.Emitter = 3, post.Emitter(3) },
				"chain by 256":      func(b *api.Body) { b.Chain = 256 + other },
				"chain 65535":       func(b *api.Body) { b.Chain, b.Emitter = 65535, post.Emitter(65535) },
				"here as other":     func(b *api.Body) { b.Chain = at },
				"emitter of here":   func(b *api.Body) { b.Emitter = post.Emitter(at) },
				"emitter of third":  func(b *api.Body) { b.Emitter = post.Emitter(3 - at - other) },
				"ruler":             func(b *api.Body) { b.Emitter = post.Ruler() },
				"nobody":            func(b *api.Body) { b.Emitter = [32]byte{} },
				"emitter by a byte": func(b *api.Body) { b.Emitter[30] = 1 },
				"emitter by first":  func(b *api.Body) { b.Emitter[0] = 177 },
			} {
				// Whatever the number is.
				for _, n := range []int{0, 5, 255, 256, 1 << 40} {
					s := from(other, at, n, l)
					change(&s.body)
					s.refused(t, fmt.Sprint(what, " of load ", kind, " on ", at), api.ErrNone)
				}
			}
		}
		for what, change := range map[string]func(b *api.Body){
			"chain 1":          func(b *api.Body) { b.Chain = 1 },
			"chain 2":          func(b *api.Body) { b.Chain = 2 },
			"chain by 256":     func(b *api.Body) { b.Chain = 256 },
			"chain 1 and its":  func(b *api.Body) { b.Chain, b.Emitter = 1, post.Emitter(1) },
			"emitter of 0":     func(b *api.Body) { b.Emitter = post.Emitter(0) },
			"emitter of here":  func(b *api.Body) { b.Emitter = post.Emitter(at) },
			"nobody":           func(b *api.Body) { b.Emitter = [32]byte{} },
			"ruler by a byte":  func(b *api.Body) { b.Emitter[31] = 1 },
			"ruler by the end": func(b *api.Body) { b.Emitter = [32]byte{31: 7} },
		} {
			for _, index := range []int{3, 2} {
				s := turning(at, index, keys(1, 2))
				change(&s.body)
				s.refused(t, fmt.Sprint(what, " of a turn to ", index), api.ErrNone)
			}
		}
	}
}

// P16.6: each number of each chain but once.
func TestSeen(t *testing.T) {
	for at := range 3 {
		for _, chain := range []int{(at + 1) % 3, (at + 2) % 3} {
			for _, n := range []int{0, 1, 63, 64, 127, 128, 200, 254, 255} {
				s := from(chain, at, n, paid(at, at))
				s.post.Seen = [3]api.Page{}
				want := passed(deep(s.post), chain, n)
				want.Assets[at].Coin = coins(300, 10000, 20200, 59500)
				s.done(t, fmt.Sprint("number ", n), want, api.OK)
				s.post = want
				s.refused(t, fmt.Sprint("twice ", n), api.ErrTwice)
				s.body.Load, s.body.Time = meta([32]byte{9}, chain, 2), 9
				s.refused(t, fmt.Sprint("twice, another load ", n), api.ErrTwice)
				// Only this number, and only of this chain.
				s = from(chain, at, n, paid(at, at))
				for i := range s.post.Seen {
					s.post.Seen[i] = api.Page{full, full, full, full}
				}
				s.refused(t, fmt.Sprint("all seen ", n), api.ErrTwice)
				s.post.Seen[chain][n/64] ^= 1 << (n % 64)
				want = passed(deep(s.post), chain, n)
				want.Assets[at].Coin = coins(300, 10000, 20200, 59500)
				s.done(t, fmt.Sprint("all others seen ", n), want, api.OK)
			}
			for _, n := range []int{256, 257, 261, 320, 1 << 32, 1<<32 + 5, 1 << 40} {
				for _, l := range [][]byte{paid(at, at), pass(paid(at, at), 7), meta([32]byte{9}, chain, 2)} {
					s := from(chain, at, n, l)
					s.refused(t, fmt.Sprint("number ", n), api.ErrRange)
				}
			}
		}
	}
	// What is refused behind the mark is not marked.
	s := from(1, 0, 6, meta([32]byte{7}, 1, 3))
	s.refused(t, "a token that is there", api.ErrTwice)
	s = from(1, 0, 6, paid(0, 0))
	want := passed(deep(s.post), 1, 6)
	want.Assets[0].Coin = coins(300, 10000, 20200, 59500)
	s.done(t, "the same number", want, api.OK)
}

// P16.6: where a transfer is to arrive, and which token it is of.
func TestArrive(t *testing.T) {
	for at := range 3 {
		other := (at + 1) % 3
		for _, kind := range []int{0, 1} {
			load := func(home, to int, token [32]byte) []byte {
				l := transfer(api.U256{5}, api.U256{2}, token, home, cleo, to)
				if kind == 1 {
					l = pass(l, 3)
				}
				return l
			}
			for _, to := range []int{other, 3 - at - other, 3, 256 + at, 65535} {
				s := from(other, at, 9, load(at, to, [32]byte{7}))
				s.refused(t, fmt.Sprint("to ", to), api.ErrRange)
				s = from(other, at, 9, load(5, to, [32]byte{8}))
				s.refused(t, fmt.Sprint("of none, to ", to), api.ErrRange)
			}
			for _, home := range []int{3, 256 + at, 65535} {
				s := from(other, at, 9, load(home, at, [32]byte{7}))
				s.refused(t, fmt.Sprint("home ", home), api.ErrNone)
			}
			for i := range 32 {
				token := [32]byte{7}
				token[i] ^= 1
				s := from(other, at, 9, load(at, at, token))
				s.refused(t, fmt.Sprint("token by byte ", i), api.ErrNone)
			}
			s := from(other, at, 9, load(other, at, [32]byte{7}))
			s.post.Assets = slices.Delete(s.post.Assets, other, other+1)
			s.refused(t, "no more an asset", api.ErrNone)
		}
	}
}

// P16.6: what is no paper.
func TestNoPaper(t *testing.T) {
	s := from(1, 0, 9, paid(0, 0))
	b := s.paper()
	for _, c := range []struct {
		what  string
		paper []byte
		want  api.Errno
	}{
		{"nil", nil, api.ErrShort},
		{"no bytes", []byte{}, api.ErrShort},
		{"version 0", append([]byte{0}, b[1:]...), api.ErrForm},
		{"version 2", append([]byte{2}, b[1:]...), api.ErrForm},
		{"one byte", b[:1], api.ErrShort},
		{"five bytes", b[:5], api.ErrShort},
		{"no signs", b[:6], api.ErrShort},
		{"no message", b[:len(b)-len(paid(0, 0))-1], api.ErrShort},
		{"twenty signs", slices.Concat(b[:5], []byte{20}, b[6:], make([]byte, 5000)), api.ErrSize},
		{"a long load", append(slices.Clone(b), make([]byte, 300)...), api.ErrSize},
		{"a very long load", append(slices.Clone(b), make([]byte, 1<<20)...), api.ErrSize},
	} {
		x := s.call()
		x.Paper = c.paper
		refused(t, c.what, s.post, x, c.want)
	}
}

// P16.6: the set of keys, which must count now.
func TestSet(t *testing.T) {
	for set, until := range []int{100, 200, 0} {
		for _, now := range []int{1, 99, 100, 101, 150, 199, 200, 201, latest} {
			s := from(1, 0, 9, paid(0, 0))
			s.post.Now = now
			s.all(set)
			if until != 0 && now >= until {
				s.refused(t, fmt.Sprint("set ", set, " at ", now), api.ErrLate)
				s.who, s.by = nil, nil
				s.refused(t, fmt.Sprint("nobody of set ", set, " at ", now), api.ErrLate)
				continue
			}
			want := passed(deep(s.post), 1, 9)
			want.Assets[0].Coin = coins(300, 10000, 20200, 59500)
			s.done(t, fmt.Sprint("set ", set, " at ", now), want, api.OK)
		}
		for other := range 3 {
			s := from(1, 0, 9, paid(0, 0))
			s.post.Now = 1
			s.all(other)
			if s.set = set; other < set {
				want := api.ErrSign
				if need := (4+set)*2/3 + 1; len(s.by) < need {
					want = api.ErrFew
				}
				s.refused(t, fmt.Sprint("those of ", other, " for ", set), want)
			} else if other > set {
				s.refused(t, fmt.Sprint("those of ", other, " for ", set), api.ErrSign)
			}
		}
	}
	for _, set := range []int{3, 4, 8, 258, 1<<32 - 1} {
		s := from(1, 0, 9, paid(0, 0))
		s.set = set
		s.refused(t, fmt.Sprint("set ", set), api.ErrNone)
	}
}

// P16.6: how many sign, and who.
func TestSigners(t *testing.T) {
	want := func(s scene) api.Post {
		p := passed(deep(s.post), 1, 9)
		p.Assets[0].Coin = coins(300, 10000, 20200, 59500)
		return p
	}
	// Of four three must sign, of five four, of six five.
	for set := range 3 {
		for mask := range 1 << (4 + set) {
			s := from(1, 0, 9, paid(0, 0))
			s.post.Now = 1
			s.all(set)
			for i := 3 + set; i >= 0; i-- {
				if mask>>i&1 == 0 {
					s.leave(i)
				}
			}
			if len(s.by) < 3+set {
				s.refused(t, fmt.Sprint("mask ", mask, " of set ", set), api.ErrFew)
			} else {
				s.done(t, fmt.Sprint("mask ", mask, " of set ", set), want(s), api.OK)
			}
		}
	}
	for what, c := range map[string]struct {
		change func(s *scene)
		want   api.Errno
	}{
		"one twice":           {func(s *scene) { s.who[1], s.by[1] = s.who[0], s.by[0] }, api.ErrForm},
		"turned":              {func(s *scene) { s.who[1], s.by[1], s.who[2], s.by[2] = s.who[2], s.by[2], s.who[1], s.by[1] }, api.ErrForm},
		"no such key":         {func(s *scene) { s.who[5] = 6 }, api.ErrRange},
		"far from a key":      {func(s *scene) { s.who[5] = 255 }, api.ErrRange},
		"another's":           {func(s *scene) { s.by[3] = 30 }, api.ErrSign},
		"another's and few":   {func(s *scene) { s.by[3] = 30; s.leave(1); s.leave(1) }, api.ErrFew},
		"another's of enough": {func(s *scene) { s.by[3] = 30; s.leave(1) }, api.ErrSign},
		"all by one":          {func(s *scene) { s.by = slices.Repeat([]uint64{s.by[0]}, 6) }, api.ErrSign},
	} {
		s := from(1, 0, 9, paid(0, 0))
		c.change(&s)
		s.refused(t, what, c.want)
	}
	// Of another sum.
	s := from(1, 0, 9, paid(0, 0))
	s.change = func(b []byte) []byte { b[len(b)-1] = 3; return b }
	s.refused(t, "another fee", api.ErrSign)
	s = from(1, 0, 9, paid(0, 0))
	s.curve = api.Curve{}
	s.refused(t, "no curve", api.ErrCurve)
	s.leave(0)
	s.leave(0)
	s.refused(t, "no curve, and few", api.ErrCurve)
}

// P16.6: loads that say nothing.
func TestNoLoad(t *testing.T) {
	for _, c := range []struct {
		what string
		load []byte
		want api.Errno
	}{
		{"nil", nil, api.ErrShort},
		{"kind 0", []byte{0}, api.ErrKind},
		{"kind 5", append([]byte{5}, paid(0, 0)[1:]...), api.ErrKind},
		{"a transfer alone", []byte{1}, api.ErrShort},
		{"a turn alone", []byte{4}, api.ErrShort},
		{"a byte too few", paid(0, 0)[:132], api.ErrShort},
		{"a byte too many", append(paid(0, 0), 0), api.ErrForm},
		{"a fee too great", transfer(api.U256{5}, api.U256{6}, [32]byte{7}, 0, cleo, 0), api.ErrForm},
		{"much behind a pass", pass(paid(0, 0), 101), api.ErrForm},
		{"decimals", meta([32]byte{9}, 1, 78), api.ErrForm},
		{"a short meta", meta([32]byte{9}, 1, 7)[:67], api.ErrShort},
		{"no keys", []byte{4, 0, 0, 0, 3, 0}, api.ErrForm},
	} {
		for at := range 3 {
			s := from((at+1)%3, at, 9, c.load)
			s.refused(t, c.what, c.want)
			// From nobody, too: what it says comes first.
			s.body.Emitter = [32]byte{}
			s.refused(t, c.what+" from nobody", c.want)
		}
	}
}

// P16.6: of all that is wrong with a paper what is named first is told.
func TestTakeOrder(t *testing.T) {
	signing := []fault[scene]{
		{"version", func(s *scene) { s.change = func(b []byte) []byte { b[0] = 9; return b } }, api.ErrForm},
		{"no set", func(s *scene) { s.set = 3 }, api.ErrNone},
		{"late", func(s *scene) { s.set = 0 }, api.ErrLate},
		{"no curve", func(s *scene) { s.curve.N = nought }, api.ErrCurve},
		{"few", func(s *scene) { s.who, s.by = s.who[:4], s.by[:4] }, api.ErrFew},
		{"no key", func(s *scene) { s.who[0] = 7 }, api.ErrRange},
		{"another's", func(s *scene) { s.by[0] = 30 }, api.ErrSign},
		{"kind", func(s *scene) { s.body.Load[0] = 9 }, api.ErrKind},
		{"form", func(s *scene) { s.body.Load = append(s.body.Load[:1:1], 7) }, api.ErrShort},
	}
	ways := map[string][]fault[scene]{
		"transfer": {
			{"here", func(s *scene) { s.body.Chain = 0 }, api.ErrNone},
			{"nobody", func(s *scene) { s.body.Emitter = [32]byte{} }, api.ErrNone},
			{"number", func(s *scene) { s.body.Number = 256 }, api.ErrRange},
			{"seen", func(s *scene) { s.body.Number = 5 }, api.ErrTwice},
			{"elsewhere", func(s *scene) { s.body.Load[100] = 1 }, api.ErrRange},
			{"token", func(s *scene) { s.body.Load[40] = 1 }, api.ErrNone},
			{"decimals", func(s *scene) { s.body.Load[1] = 255 }, api.ErrFunds},
			{"no room", func(s *scene) { s.post.Assets[0].Coin = full40() }, api.ErrFull},
		},
		"meta": {
			{"here", func(s *scene) { s.body.Chain = 0 }, api.ErrNone},
			{"nobody", func(s *scene) { s.body.Emitter = [32]byte{} }, api.ErrNone},
			{"number", func(s *scene) { s.body.Number = 256 }, api.ErrRange},
			{"seen", func(s *scene) { s.body.Number = 5 }, api.ErrTwice},
			{"home", func(s *scene) { s.body.Load[34] = 2 }, api.ErrNone},
			{"twice", func(s *scene) { s.body.Load[1] = 7 }, api.ErrTwice},
			{"full", func(s *scene) { s.post.Assets = append(stand(0).Assets, assets(0, 1)...) }, api.ErrFull},
		},
		"turn": {
			{"chain", func(s *scene) { s.body.Chain = 1 }, api.ErrNone},
			{"nobody", func(s *scene) { s.body.Emitter = [32]byte{} }, api.ErrNone},
			{"index", func(s *scene) { s.body.Load[4] = 5 }, api.ErrRange},
			{"key twice", func(s *scene) { copy(s.body.Load[26:46], s.body.Load[6:26]) }, api.ErrTwice},
			{"hour", func(s *scene) { s.post.Now = 175 }, api.ErrRange},
		},
	}
	begin := map[string]func() scene{
		"transfer": func() scene { return from(1, 0, 70, paid(0, 0)) },
		"meta":     func() scene { return from(1, 0, 70, meta([32]byte{9}, 1, 5)) },
		"turn":     func() scene { return turning(0, 3, keys(1, 2, 3)) },
	}
	for way, more := range ways {
		faults := append(slices.Clone(signing), more...)
		for i, f := range faults {
			for _, g := range faults[i:] {
				s := begin[way]()
				g.make(&s)
				f.make(&s)
				s.refused(t, way+": "+f.what+" and "+g.what, f.want)
			}
		}
	}
}

// full40: a coin with a vault that has 600, and no room for one more holding.
func full40() api.Coin {
	c := crowd(39)
	c.Holds = append(c.Holds, api.Holding{Who: vault, Amount: api.U256{600}})
	c.Supply[0] += 600
	return c
}

// signedAlone: a paper that one secret has signed.
func signedAlone(t *testing.T, c api.Curve, secret api.U256, b api.Body) []byte {
	t.Helper()
	h, _ := paper.Sum(b)
	s, e := sign.Make(c, secret, h)
	if e != api.OK {
		t.Fatal(e)
	}
	l, e := paper.Encode(api.Paper{Signs: []api.Signed{{Sign: s}}, Body: b})
	if e != api.OK {
		t.Fatal(e)
	}
	return l
}
