package post_test

import (
	"fmt"
	"math"
	"reflect"
	"slices"
	"testing"

	"bascule/api"
	"bascule/post"
	"bascule/sign"
)

const (
	full   = ^uint64(0)
	latest = 1 << 40 // MaxTime
)

var (
	nought  = api.U256{}
	highest = api.U256{full, full, full, full}
	vault   = [32]byte(slices.Repeat([]byte{255}, 32))
	ann     = [32]byte{1}
	bob     = [32]byte{2}
	cleo    = [32]byte{31: 3}
)

// toy: a curve of 31 points.
func toy() api.Curve {
	return api.Curve{P: api.U256{43}, B: api.U256{7}, N: api.U256{31}, Base: api.Point{X: api.U256{2}, Y: api.U256{12}}}
}

// known keys of secrets, as they take long to find.
var known = map[uint64]api.Key{}

// keys of these secrets, all of which are below 31.
func keys(secrets ...uint64) []api.Key {
	var l []api.Key
	for _, d := range secrets {
		if _, is := known[d]; !is {
			p, e := sign.Point(toy(), api.U256{d})
			if e != api.OK {
				panic(e)
			}
			known[d] = sign.KeyOf(p)
		}
		l = append(l, known[d])
	}
	return l
}

// secrets of the set at a place, in the posts of these tests: four of the first one, five
// of the second one, and so on.
func secrets(set int) []uint64 {
	var l []uint64
	for i := range 4 + set {
		l = append(l, uint64(1+(7*i+3*set)%30))
	}
	return l
}

// setsOf so many sets, the last one of which counts without end.
func setsOf(n int) []api.Set {
	var l []api.Set
	for i := range n {
		l = append(l, api.Set{Index: i, Keys: keys(secrets(i)...), Until: 100 * (i + 1)})
	}
	l[n-1].Until = 0
	return l
}

// hold: a coin that people hold, who are named by rising numbers, and maybe the vault.
func hold(locked uint64, amounts ...uint64) api.Coin {
	var c api.Coin
	for i, n := range amounts {
		c.Holds = append(c.Holds, api.Holding{Who: [32]byte{byte(i + 1)}, Amount: api.U256{n}})
		c.Supply[0] += n
	}
	if locked > 0 {
		c.Holds = append(c.Holds, api.Holding{Who: vault, Amount: api.U256{locked}})
		c.Supply[0] += locked
	}
	return c
}

// crowd: a coin with so many holdings of 1000 each.
func crowd(n int) api.Coin {
	l := make([]uint64, n)
	for i := range l {
		l[i] = 1000
	}
	return hold(0, l...)
}

// body of a message that the post of a chain may have sent.
func body(chain, number int) api.Body {
	b := api.Body{Time: 5 * number, Nonce: 3, Chain: chain, Number: number, Level: number % 256, Load: slices.Repeat([]byte{byte(number)}, number%301)}
	b.Emitter[0], b.Emitter[31] = 176, byte(chain)
	return b
}

// stand: a post on a chain, on which much has happened already.
func stand(chain int) api.Post {
	p := api.Post{Chain: chain, Now: 150, Sets: setsOf(3), Next: 2, Sent: []api.Body{body(chain, 0), body(chain, 1)}}
	p.Seen[(chain+1)%3] = api.Page{1 << 5, 0, 0, 1 << 63}
	for home := range 3 {
		a := api.Asset{Token: [32]byte{7}, Home: home, Decimals: 8, Coin: hold(0, 40, 50)}
		if home == chain {
			a.Decimals, a.Coin = 10, hold(60000, 10000, 20000)
		}
		p.Assets = append(p.Assets, a)
	}
	return p
}

// great: a post that is full of all that it may have.
func great(chain int) api.Post {
	p := api.Post{Chain: chain, Now: latest, Sets: setsOf(8), Next: 256}
	for i := range 8 {
		p.Sets[i].Keys = keys(1, 2, 3, 4, 5, 6, 7, 8, 9, 10, 11, 12, 13, 14, 15, 16, 17, 18, 19)
	}
	for i := range 7 {
		p.Sets[i].Until = latest + 24
	}
	for home := range 3 {
		p.Assets = append(p.Assets, api.Asset{Token: [32]byte{byte(home)}, Home: home, Decimals: 8, Coin: crowd(40)})
	}
	p.Assets = append(p.Assets, api.Asset{Token: [32]byte{31: 1}, Home: chain, Decimals: 77})
	for i := range 256 {
		b := body(chain, i)
		b.Time, b.Nonce, b.Level = latest, 1<<32-1, 255
		b.Load = make([]byte, 300)
		p.Sent = append(p.Sent, b)
	}
	for i := range p.Seen {
		p.Seen[i] = api.Page{full, full, full, full}
	}
	return p
}

// whole: posts that may be.
func whole() []api.Post {
	var l []api.Post
	for chain := range 3 {
		l = append(l, stand(chain), great(chain), api.Post{Chain: chain, Now: 1, Sets: setsOf(1)})
	}
	return l
}

// deep copy of a post.
func deep(p api.Post) api.Post {
	p.Sets, p.Assets, p.Sent = slices.Clone(p.Sets), slices.Clone(p.Assets), slices.Clone(p.Sent)
	for i := range p.Sets {
		p.Sets[i].Keys = slices.Clone(p.Sets[i].Keys)
	}
	for i := range p.Assets {
		p.Assets[i].Coin.Holds = slices.Clone(p.Assets[i].Coin.Holds)
	}
	for i := range p.Sent {
		p.Sent[i].Load = slices.Clone(p.Sent[i].Load)
	}
	return p
}

// bare: a copy of a list, which is nil without elements.
func bare[T any](l []T) []T {
	if len(l) == 0 {
		return nil
	}
	return slices.Clone(l)
}

// plain: a post whose lists without elements are nil.
func plain(p api.Post) api.Post {
	p.Sets, p.Assets, p.Sent = bare(p.Sets), bare(p.Assets), bare(p.Sent)
	for i := range p.Sets {
		p.Sets[i].Keys = bare(p.Sets[i].Keys)
	}
	for i := range p.Assets {
		p.Assets[i].Coin.Holds = bare(p.Assets[i].Coin.Holds)
	}
	for i := range p.Sent {
		p.Sent[i].Load = bare(p.Sent[i].Load)
	}
	return p
}

func same(p, q api.Post) bool { return reflect.DeepEqual(plain(p), plain(q)) }

// apart: where two posts are not the same, in few words.
func apart(got, want api.Post) string {
	g, w := reflect.ValueOf(plain(got)), reflect.ValueOf(plain(want))
	for i := range g.NumField() {
		if a, b := g.Field(i).Interface(), w.Field(i).Interface(); !reflect.DeepEqual(a, b) {
			return fmt.Sprintf("%s: %.600v, want %.600v", g.Type().Field(i).Name, fmt.Sprint(a), fmt.Sprint(b))
		}
	}
	return "the post that is wanted"
}

// none: a zero post.
func none(p api.Post) bool { return same(p, api.Post{}) }

// outside: numbers that are not from 0 to most, some of which are once they are cut.
func outside(most int) []int {
	return []int{-1, -2, -255, -256, most + 1, most + 2, 256 + most + 1, 1 << 41, 1<<62 + 1, math.MaxInt, math.MinInt, math.MinInt + 1}
}

// P16.1
func TestNames(t *testing.T) {
	for chain, last := range map[int]byte{
		0: 0, 1: 1, 2: 2, 3: 3, 255: 255, 256: 0, 257: 1, 511: 255, 1<<40 + 9: 9, math.MaxInt: 255,
		-1: 255, -2: 254, -255: 1, -256: 0, -257: 255, math.MinInt: 0, math.MinInt + 7: 7,
	} {
		want := [32]byte{}
		want[0], want[31] = 176, last
		if got := post.Emitter(chain); got != want {
			t.Errorf("Emitter of %d: %v", chain, got)
		}
	}
	for _, b := range post.Vault() {
		if b != 255 {
			t.Errorf("Vault: %v", post.Vault())
		}
	}
	for i, b := range post.Ruler() {
		if (i == 0 && b != 7) || (i > 0 && b != 0) {
			t.Errorf("Ruler: %v", post.Ruler())
		}
	}
}

// mayNot: a post that is refused by Check, and by Do whatever the call.
func mayNot(t *testing.T, what string, p api.Post) {
	t.Helper()
	if e := post.Check(p); e != api.ErrState {
		t.Errorf("%s: Check: %d", what, e)
	}
	for kind := range 6 {
		x := api.Call{Kind: kind, Who: ann, Token: [32]byte{7}, Home: p.Chain, Amount: api.U256{100}, ToChain: (p.Chain + 1) % 3, Hours: 1}
		for _, c := range []api.Curve{toy(), {}} {
			if q, e := post.Do(c, p, x); !none(q) || e != api.ErrState {
				t.Errorf("%s: Do of kind %d: %s, %d", what, kind, apart(q, api.Post{}), e)
			}
		}
	}
}

// P16.2: posts that may be, and such as are at the bounds of what may be.
func TestCheck(t *testing.T) {
	for i, p := range whole() {
		if e := post.Check(p); e != api.OK {
			t.Errorf("post %d: %d", i, e)
		}
	}
	for chain := range 3 {
		other := (chain + 2) % 3
		for what, change := range map[string]func(p *api.Post){
			"hour 1":             func(p *api.Post) { p.Now = 1 },
			"the last hour":      func(p *api.Post) { p.Now = latest },
			"no decimals":        func(p *api.Post) { p.Assets[0].Decimals, p.Assets[1].Decimals, p.Assets[2].Decimals = 0, 0, 0 },
			"all decimals":       func(p *api.Post) { p.Assets[chain].Decimals = 77 },
			"few decimals":       func(p *api.Post) { p.Assets[chain].Decimals, p.Assets[other].Decimals = 8, 8 },
			"nobody's coin":      func(p *api.Post) { p.Assets[chain].Coin, p.Assets[other].Coin = api.Coin{}, api.Coin{} },
			"no assets":          func(p *api.Post) { p.Assets = nil },
			"homes alike":        func(p *api.Post) { p.Assets[0].Home, p.Assets[0].Token, p.Assets[0].Decimals = other, [32]byte{8}, 1 },
			"a token of noughts": func(p *api.Post) { p.Assets[1].Token = [32]byte{} },
			"all that is held": func(p *api.Post) {
				p.Assets[other].Coin = api.Coin{Supply: highest, Holds: []api.Holding{{Who: vault, Amount: highest}}}
			},
			"much that is seen":  func(p *api.Post) { p.Seen = [3]api.Page{{full, 1}, {0, 0, 0, full}, {9}} },
			"nothing sent":       func(p *api.Post) { p.Sent, p.Next = []api.Body{}, 0 },
			"a set that is over": func(p *api.Post) { p.Sets[0].Until = 1 },
			"a late message":     func(p *api.Post) { p.Sent[1].Time = latest },
			"an empty message":   func(p *api.Post) { p.Sent[1].Load, p.Sent[1].Time, p.Sent[1].Nonce, p.Sent[1].Level = nil, 0, 0, 0 },
		} {
			p := stand(chain)
			change(&p)
			if e := post.Check(p); e != api.OK {
				t.Errorf("%s on %d: %d", what, chain, e)
			}
		}
	}
}

// P16.2: the chain and the hour.
func TestCheckNumbers(t *testing.T) {
	for _, n := range outside(2) {
		// All else is as it would be on that chain.
		p := api.Post{Chain: n, Now: 1, Sets: setsOf(1)}
		mayNot(t, fmt.Sprint("chain ", n), p)
		p.Sent, p.Next = []api.Body{body(n&0xffff, 0)}, 1
		mayNot(t, fmt.Sprint("chain ", n, " with a message"), p)
	}
	for _, n := range append(outside(latest), 0) {
		for _, p := range whole() {
			p.Now = n
			mayNot(t, fmt.Sprint("hour ", n), p)
		}
	}
}

// P16.2: the sets; what sets' Check says otherwise is ErrState, too.
func TestCheckSets(t *testing.T) {
	for what, change := range map[string]func(p *api.Post){
		"no sets": func(p *api.Post) { p.Sets = nil },
		"nine sets": func(p *api.Post) {
			p.Sets = append(great(0).Sets, api.Set{Index: 8, Keys: keys(1)})
			p.Sets[7].Until = latest + 24
		},
		"no keys": func(p *api.Post) { p.Sets[1].Keys = nil },
		"twenty keys": func(p *api.Post) {
			p.Sets[1].Keys = keys(1, 2, 3, 4, 5, 6, 7, 8, 9, 10, 11, 12, 13, 14, 15, 16, 17, 18, 19, 20)
		},
		"a key twice":  func(p *api.Post) { p.Sets[2].Keys = keys(1, 2, 1) },
		"wrong index":  func(p *api.Post) { p.Sets[1].Index = 2 },
		"last is over": func(p *api.Post) { p.Sets[2].Until = 400 },
		"first is not": func(p *api.Post) { p.Sets[0].Until = 0 },
		"hours fall":   func(p *api.Post) { p.Sets[1].Until = 99 },
		"too late":     func(p *api.Post) { p.Sets[1].Until = latest + 25 },
	} {
		for chain := range 3 {
			p := stand(chain)
			change(&p)
			mayNot(t, what, p)
		}
	}
}

// P16.2: the assets.
func TestCheckAssets(t *testing.T) {
	for chain := range 3 {
		for at := range 3 {
			for _, n := range outside(2) {
				p := stand(chain)
				p.Assets[at].Home, p.Assets[at].Decimals = n, 1
				mayNot(t, fmt.Sprint("home ", n), p)
			}
			most := 8
			if at == chain {
				most = 77
			}
			for _, n := range outside(most) {
				p := stand(chain)
				p.Assets[at].Decimals = n
				mayNot(t, fmt.Sprint("decimals ", n, " of ", at, " on ", chain), p)
			}
			for what, c := range map[string]api.Coin{
				"a supply alone": {Supply: api.U256{1}},
				"no supply":      {Holds: []api.Holding{{Who: ann, Amount: api.U256{1}}}},
				"an empty one":   {Supply: api.U256{1}, Holds: []api.Holding{{Who: ann, Amount: api.U256{1}}, {Who: bob}}},
				"turned ones":    {Supply: api.U256{3}, Holds: []api.Holding{{Who: bob, Amount: api.U256{1}}, {Who: ann, Amount: api.U256{2}}}},
				"41 holdings":    crowd(41),
			} {
				p := stand(chain)
				p.Assets[at].Coin = c
				mayNot(t, what, p)
			}
			for other := range 3 {
				if other != at {
					p := stand(chain)
					p.Assets[at].Home, p.Assets[at].Decimals = p.Assets[other].Home, 1
					mayNot(t, fmt.Sprint(at, " is ", other), p)
				}
			}
		}
		p := stand(chain)
		p.Assets = append(p.Assets, p.Assets[0])
		p.Assets[3].Token[31] = 9
		if e := post.Check(p); e != api.OK {
			t.Errorf("four assets: %d", e)
		}
		for i := range 300 {
			p.Assets = append(p.Assets, api.Asset{Token: [32]byte{9, byte(i), byte(i >> 8)}, Home: chain})
			mayNot(t, fmt.Sprint(len(p.Assets), " assets"), p)
		}
	}
}

// P16.2: the messages.
func TestCheckSent(t *testing.T) {
	for chain := range 3 {
		for _, n := range []int{0, 1, 3, -2, 258, 1<<32 + 2, math.MinInt, math.MaxInt} {
			p := stand(chain)
			p.Next = n
			mayNot(t, fmt.Sprint("next ", n), p)
		}
		p := great(chain)
		for n := 257; n < 260; n++ {
			p.Sent, p.Next = append(p.Sent, body(chain, n-1)), n
			mayNot(t, fmt.Sprint(n, " messages"), p)
		}
		for at := range 2 {
			for what, change := range map[string]func(b *api.Body){
				"a late one":        func(b *api.Body) { b.Time = latest + 1 },
				"an early one":      func(b *api.Body) { b.Time = -1 },
				"low nonce":         func(b *api.Body) { b.Nonce = -1 },
				"great nonce":       func(b *api.Body) { b.Nonce = 1 << 32 },
				"low level":         func(b *api.Body) { b.Level = -1 },
				"great level":       func(b *api.Body) { b.Level = 256 },
				"a long load":       func(b *api.Body) { b.Load = make([]byte, 301) },
				"number of other":   func(b *api.Body) { b.Number = 1 - b.Number },
				"number 2":          func(b *api.Body) { b.Number = 2 },
				"low number":        func(b *api.Body) { b.Number = -1 },
				"chain of other":    func(b *api.Body) { b.Chain = (chain + 1) % 3 },
				"no such chain":     func(b *api.Body) { b.Chain = chain + 256 },
				"other, with its":   func(b *api.Body) { b.Chain, b.Emitter = (chain+1)%3, post.Emitter(chain+1) },
				"emitter of other":  func(b *api.Body) { b.Emitter[31]++ },
				"no emitter":        func(b *api.Body) { b.Emitter = [32]byte{} },
				"the ruler's":       func(b *api.Body) { b.Emitter = post.Ruler() },
				"emitter by a byte": func(b *api.Body) { b.Emitter[16] = 1 },
			} {
				p := stand(chain)
				change(&p.Sent[at])
				mayNot(t, fmt.Sprint(what, " at ", at), p)
			}
		}
	}
}

// own assets of a chain.
func assets(chain, n int) []api.Asset {
	var l []api.Asset
	for i := range n {
		l = append(l, api.Asset{Token: [32]byte{byte(i)}, Home: chain, Decimals: 25 * i, Coin: hold(uint64(i), 3, 4)})
	}
	return l
}

// P16.3
func TestBegin(t *testing.T) {
	for chain := range 3 {
		for n := range 5 {
			l := keys(secrets(n)...)
			got, e := post.Begin(chain, l, assets(chain, n))
			want := api.Post{Chain: chain, Now: 1, Sets: []api.Set{{Keys: l}}, Assets: assets(chain, n)}
			if !same(got, want) || e != api.OK || post.Check(got) != api.OK {
				t.Errorf("%d assets on %d: %s, %d", n, chain, apart(got, want), e)
			}
		}
	}
}

// beginNot: what Begin refuses.
func beginNot(t *testing.T, what string, at int, l []api.Key, assets []api.Asset, want api.Errno) {
	t.Helper()
	if p, e := post.Begin(at, l, assets); !none(p) || e != want {
		t.Errorf("%s: %s, %d, want %d", what, apart(p, api.Post{}), e, want)
	}
}

// P16.3: what is refused; keys come first.
func TestBeginNot(t *testing.T) {
	one := keys(5)
	for _, c := range []struct {
		keys []api.Key
		want api.Errno
	}{{one, api.ErrState}, {nil, api.ErrSize}, {make([]api.Key, 20), api.ErrSize}, {keys(1, 2, 3, 1), api.ErrTwice}} {
		for _, n := range outside(2) {
			beginNot(t, fmt.Sprint("chain ", n), n, c.keys, nil, c.want)
			beginNot(t, fmt.Sprint("chain ", n, " with an asset"), n, c.keys, []api.Asset{{Home: n}}, c.want)
		}
		for chain := range 3 {
			if c.want != api.ErrState {
				beginNot(t, "keys alone", chain, c.keys, assets(chain, 2), c.want)
			}
			beginNot(t, "five assets", chain, c.keys, assets(chain, 5), c.want)
			for at := range 3 {
				for what, change := range map[string]func(a *api.Asset){
					"home of other":  func(a *api.Asset) { a.Home, a.Decimals = (chain+1)%3, 2 },
					"home of none":   func(a *api.Asset) { a.Home = 3 },
					"home by 256":    func(a *api.Asset) { a.Home += 256 },
					"low home":       func(a *api.Asset) { a.Home = -1 },
					"low decimals":   func(a *api.Asset) { a.Decimals = -1 },
					"many decimals":  func(a *api.Asset) { a.Decimals = 78 },
					"coin may not":   func(a *api.Asset) { a.Coin.Supply[3]++ },
					"token of other": func(a *api.Asset) { a.Token[0] = byte((at + 1) % 3) },
				} {
					l := assets(chain, 3)
					change(&l[at])
					beginNot(t, fmt.Sprint(what, " at ", at, " on ", chain), chain, c.keys, l, c.want)
				}
			}
		}
	}
}

// P16.4: kinds that there are not; the post is told as it was.
func TestKind(t *testing.T) {
	for _, p := range whole() {
		for _, kind := range []int{0, -1, -4, 5, 6, 256, 257, 260, 1<<32 + 1, 1<<62 + 4, math.MaxInt, math.MinInt, math.MinInt + 1} {
			for _, x := range []api.Call{{}, {Who: ann, Token: [32]byte{7}, Amount: api.U256{100}, ToChain: 1, Hours: 1}, {Hours: -1, ToChain: 9}} {
				x.Kind = kind
				for _, c := range []api.Curve{toy(), {}} {
					if q, e := post.Do(c, p, x); !same(p, q) || e != api.ErrKind {
						t.Errorf("kind %d: %s, %d", kind, apart(q, p), e)
					}
				}
			}
		}
	}
}
