package post_test

import (
	"bytes"
	"fmt"
	"maps"
	"math/big"
	"math/rand"
	"slices"
	"testing"

	"bascule/api"
	"bascule/post"
	"bascule/sign"
)

// toBig and fromBig go part by part, so that they lean on nothing of the program.
func toBig(a api.U256) *big.Int {
	n := new(big.Int)
	for _, part := range slices.Backward(a[:]) {
		n.Lsh(n, 64).Or(n, new(big.Int).SetUint64(part))
	}
	return n
}

func fromBig(n *big.Int) api.U256 {
	var a api.U256
	for i := range a {
		a[i] = new(big.Int).Rsh(n, uint(64*i)).Uint64()
	}
	return a
}

// letter: what a paper says, and who has signed it.
type letter struct {
	set    int
	who    []int
	by     []uint64
	body   api.Body // without its load
	kind   int
	amount *big.Int
	fee    *big.Int
	token  [32]byte
	home   int
	to     [32]byte
	chain  int
	few    int // decimals
	index  int
	keys   []uint64
}

// load of a letter, byte by byte.
func (l letter) load() []byte {
	switch l.kind {
	case api.Meta:
		return meta(l.token, l.home, l.few)
	case api.Turn:
		b := bytes.Join([][]byte{{4, 0, 0}, two(l.index), {byte(len(l.keys))}}, nil)
		for _, k := range keys(l.keys...) {
			b = append(b, k[:]...)
		}
		return b
	}
	b := transfer(fromBig(l.amount), fromBig(l.fee), l.token, l.home, l.to, l.chain)
	if l.kind == api.Pass {
		return pass(b, l.few)
	}
	b[0] = byte(l.kind)
	return b
}

func (l letter) paper() []byte {
	s := scene{set: l.set, who: l.who, by: l.by, body: l.body}
	s.body.Load = l.load()
	return s.paper()
}

// book: what a post is, told another way.
type book struct {
	chain, now int
	sets       []api.Set
	assets     []entry
	seen       map[[2]int]bool
	sent       []api.Body
}

// entry of an asset: who holds how much.
type entry struct {
	token    [32]byte
	home     int
	decimals int
	holds    map[[32]byte]*big.Int
}

func openBook(p api.Post) book {
	p = deep(p)
	b := book{chain: p.Chain, now: p.Now, sets: p.Sets, sent: p.Sent, seen: map[[2]int]bool{}}
	for chain, page := range p.Seen {
		for n := range 256 {
			if page[n/64]>>(n%64)&1 == 1 {
				b.seen[[2]int{chain, n}] = true
			}
		}
	}
	for _, a := range p.Assets {
		e := entry{a.Token, a.Home, a.Decimals, map[[32]byte]*big.Int{}}
		for _, h := range a.Coin.Holds {
			e.holds[h.Who] = toBig(h.Amount)
		}
		b.assets = append(b.assets, e)
	}
	return b
}

// close a book to a post.
func (b book) close() api.Post {
	p := api.Post{Chain: b.chain, Now: b.now, Sets: b.sets, Next: len(b.sent), Sent: b.sent}
	for n := range b.seen {
		p = passed(p, n[0], n[1])
	}
	for _, e := range b.assets {
		a := api.Asset{Token: e.token, Home: e.home, Decimals: e.decimals}
		a.Coin.Supply = fromBig(e.supply())
		for _, who := range slices.SortedFunc(maps.Keys(e.holds), func(a, b [32]byte) int { return bytes.Compare(a[:], b[:]) }) {
			if e.holds[who].Sign() > 0 {
				a.Coin.Holds = append(a.Coin.Holds, api.Holding{Who: who, Amount: fromBig(e.holds[who])})
			}
		}
		p.Assets = append(p.Assets, a)
	}
	return p
}

func (e entry) supply() *big.Int {
	sum := new(big.Int)
	for _, n := range e.holds {
		sum.Add(sum, n)
	}
	return sum
}

// change what somebody holds; it is told what may not be then.
func (e entry) change(who [32]byte, n *big.Int) api.Errno {
	if e.holds[who] == nil {
		e.holds[who] = new(big.Int)
	}
	e.holds[who] = new(big.Int).Add(e.holds[who], n)
	if e.holds[who].Sign() < 0 || e.supply().BitLen() > 256 {
		return api.ErrFunds
	}
	people := 0
	for _, has := range e.holds {
		people += has.Sign()
	}
	if people > 40 {
		return api.ErrFull
	}
	return api.OK
}

// factor of the asset's decimals.
func (e entry) factor() *big.Int {
	return new(big.Int).Exp(big.NewInt(10), big.NewInt(int64(max(e.decimals-8, 0))), nil)
}

func (b book) asset(token [32]byte, home int) int {
	return slices.IndexFunc(b.assets, func(e entry) bool { return e.token == token && e.home == home })
}

// say a load: one more message is sent.
func (b *book) say(l []byte) api.Errno {
	if len(b.sent) == 256 {
		return api.ErrFull
	}
	b.sent = append(b.sent, told(api.Post{Chain: b.chain, Now: b.now, Sent: b.sent}, l))
	return api.OK
}

// do a call; what was refused may have left its traces.
func (b *book) do(x api.Call, l letter) api.Errno {
	switch x.Kind {
	case api.Send:
		return b.send(x)
	case api.Take:
		return b.take(x, l)
	case api.Tell:
		at := b.asset(x.Token, b.chain)
		if at < 0 {
			return api.ErrNone
		}
		return b.say(meta(x.Token, b.chain, b.assets[at].decimals))
	}
	if x.Hours < 1 || x.Hours > 1000 || b.now > latest-x.Hours {
		return api.ErrRange
	}
	b.now += x.Hours
	return api.OK
}

func (b *book) send(x api.Call) api.Errno {
	at := b.asset(x.Token, x.Home)
	if at < 0 {
		return api.ErrNone
	}
	if x.ToChain < 0 || x.ToChain > 2 || x.ToChain == b.chain {
		return api.ErrRange
	}
	e, amount, fee := b.assets[at], toBig(x.Amount), toBig(x.Fee)
	if amount.Sign() == 0 || amount.Cmp(fee) < 0 || x.Who == vault {
		return api.ErrFunds
	}
	var said [2]*big.Int
	for i, n := range []*big.Int{amount, fee} {
		few, dust := new(big.Int).DivMod(n, e.factor(), new(big.Int))
		if dust.Sign() != 0 {
			return api.ErrDust
		}
		if said[i] = few; !few.IsUint64() {
			return api.ErrFunds
		}
	}
	if wrong := e.change(x.Who, new(big.Int).Neg(amount)); wrong != api.OK {
		return wrong
	}
	if e.home == b.chain {
		if wrong := e.change(vault, amount); wrong != api.OK {
			return wrong
		}
		if few := new(big.Int).Div(e.holds[vault], e.factor()); !few.IsUint64() {
			return api.ErrFull
		}
	}
	return b.say(transfer(fromBig(said[0]), fromBig(said[1]), x.Token, x.Home, x.To, x.ToChain))
}

// signed: may the letter be taken, by who has signed it?
func (b *book) signed(l letter) api.Errno {
	if l.set >= len(b.sets) {
		return api.ErrNone
	}
	s := b.sets[l.set]
	if s.Until != 0 && s.Until <= b.now {
		return api.ErrLate
	}
	if 3*len(l.by) <= 2*len(s.Keys) {
		return api.ErrFew
	}
	last := -1
	for i, who := range l.who {
		if who >= len(s.Keys) {
			return api.ErrRange
		}
		if who <= last {
			return api.ErrForm
		}
		if last = who; keys(l.by[i])[0] != s.Keys[who] {
			return api.ErrSign
		}
	}
	return api.OK
}

func (b *book) take(x api.Call, l letter) api.Errno {
	if e := b.signed(l); e != api.OK {
		return e
	}
	if l.kind < 1 || l.kind > 4 {
		return api.ErrKind
	}
	if l.kind != api.Meta && l.kind != api.Turn && l.fee.Cmp(l.amount) > 0 {
		return api.ErrForm
	}
	if l.kind == api.Turn {
		return b.turn(l)
	}
	n := [2]int{l.body.Chain, l.body.Number}
	switch {
	case n[0] > 2 || n[0] == b.chain || l.body.Emitter != [32]byte{0: 176, 31: byte(n[0])}:
		return api.ErrNone
	case n[1] > 255:
		return api.ErrRange
	case b.seen[n]:
		return api.ErrTwice
	}
	b.seen[n] = true
	if l.kind == api.Meta {
		return b.list(l)
	}
	return b.pay(x, l)
}

func (b *book) turn(l letter) api.Errno {
	if l.body.Chain != 0 || l.body.Emitter != [32]byte{7} {
		return api.ErrNone
	}
	last := len(b.sets) - 1
	if l.index != last+1 {
		return api.ErrRange
	}
	k := keys(l.keys...)
	if len(slices.Compact(slices.Sorted(slices.Values(l.keys)))) < len(k) {
		return api.ErrTwice
	}
	if last > 0 && b.now+24 < b.sets[last-1].Until {
		return api.ErrRange
	}
	if last == 7 {
		return api.ErrFull
	}
	b.sets[last].Until = b.now + 24
	b.sets = append(b.sets, api.Set{Index: last + 1, Keys: k})
	return api.OK
}

func (b *book) list(l letter) api.Errno {
	switch {
	case l.home != l.body.Chain:
		return api.ErrNone
	case b.asset(l.token, l.home) >= 0:
		return api.ErrTwice
	case len(b.assets) == 4:
		return api.ErrFull
	}
	b.assets = append(b.assets, entry{l.token, l.home, min(l.few, 8), map[[32]byte]*big.Int{}})
	return api.OK
}

func (b *book) pay(x api.Call, l letter) api.Errno {
	if l.chain != b.chain {
		return api.ErrRange
	}
	at := b.asset(l.token, l.home)
	if at < 0 {
		return api.ErrNone
	}
	e := b.assets[at]
	amount, fee := new(big.Int).Mul(l.amount, e.factor()), new(big.Int).Mul(l.fee, e.factor())
	if amount.BitLen() > 256 {
		return api.ErrFunds
	}
	for i, n := range []*big.Int{new(big.Int).Sub(amount, fee), fee} {
		if e.home == b.chain {
			if wrong := e.change(vault, new(big.Int).Neg(n)); wrong != api.OK {
				return wrong
			}
		}
		if wrong := e.change([][32]byte{l.to, x.Who}[i], n); wrong != api.OK {
			return wrong
		}
	}
	return api.OK
}

// chance: what happens in a walk; whose key is whose.
type chance struct {
	*rand.Rand
	secrets map[api.Key]uint64
}

func newChance(seed int64) chance {
	c := chance{rand.New(rand.NewSource(seed)), map[api.Key]uint64{}}
	for d := range uint64(30) {
		c.secrets[keys(d + 1)[0]] = d + 1
	}
	return c
}

func (c chance) somebody() [32]byte {
	switch n := c.Intn(50); {
	case n < 20:
		return ann
	case n < 30:
		return bob
	case n < 35:
		return vault
	default:
		return [32]byte{byte(n)}
	}
}

func (c chance) token() [32]byte { return [32]byte{7 + byte(c.Intn(8)*c.Intn(2)/4)} }

// amount with few decimals.
func (c chance) amount() *big.Int {
	n := new(big.Int).SetUint64(uint64(c.Intn(300)))
	if c.Intn(10) == 0 {
		n.Rand(c.Rand, new(big.Int).Lsh(big.NewInt(1), uint(1+c.Intn(256))))
	}
	return n
}

// call to a post, and the letter that it brings, if it does.
func (c chance) call(p api.Post) (api.Call, letter) {
	x := api.Call{
		Kind: 1 + c.Intn(2), Who: c.somebody(), Token: c.token(), Home: c.Intn(3), To: c.somebody(), ToChain: c.Intn(4), Hours: c.Intn(30),
	}
	if c.Intn(12) == 0 {
		x.Kind = 3 + c.Intn(2)
	}
	factor := new(big.Int).Exp(big.NewInt(10), big.NewInt(int64(c.Intn(3))), nil)
	x.Amount, x.Fee = fromBig(factor.Mul(factor, c.amount())), fromBig(factor.Mul(factor, big.NewInt(int64(c.Intn(4)/2))))
	if c.Intn(3) > 0 {
		// Something that is there, and somebody who has it.
		x.ToChain = (p.Chain + 1 + c.Intn(2)) % 3
		if len(p.Assets) > 0 {
			a := p.Assets[c.Intn(len(p.Assets))]
			x.Token, x.Home, x.Fee = a.Token, a.Home, nought
			if l := a.Coin.Holds; len(l) > 0 {
				h := l[c.Intn(len(l))]
				x.Who, x.Amount = h.Who, h.Amount
			}
			if a.Decimals > 8 && c.Intn(4) > 0 {
				x.Amount[0] -= x.Amount[0] % 100
			}
		}
	}
	var l letter
	if x.Kind == api.Take {
		l = c.letter(p)
		x.Paper = l.paper()
	}
	return x, l
}

func (c chance) letter(p api.Post) letter {
	l := letter{
		kind: []int{1, 1, 1, 1, 3, 3, 2, 2, 4, 5}[c.Intn(10)], amount: c.amount(), fee: big.NewInt(int64(c.Intn(20))), token: c.token(), home: c.Intn(4),
		to: c.somebody(), chain: p.Chain, few: c.Intn(78), index: len(p.Sets), keys: secrets(c.Intn(6)),
	}
	l.body = api.Body{Time: c.Intn(99), Nonce: c.Intn(99), Chain: (p.Chain + 1 + c.Intn(2)) % 3, Number: c.Intn(256), Level: c.Intn(256)}
	l.body.Emitter = post.Emitter(l.body.Chain)
	if l.kind == api.Meta && c.Intn(4) > 0 {
		l.home = l.body.Chain
	}
	if l.kind == api.Turn && c.Intn(4) > 0 {
		l.body.Chain, l.body.Emitter = 0, post.Ruler()
	}
	c.signers(p, &l)
	switch c.Intn(40) {
	case 0:
		l.body.Chain = c.Intn(5)
	case 1:
		l.body.Emitter = post.Emitter(c.Intn(5))
	case 2:
		l.body.Number = 256 + c.Intn(9)
	case 3:
		l.chain = c.Intn(5)
	case 4:
		l.index = c.Intn(10)
	case 5:
		l.keys = append(l.keys, l.keys[0])
	case 6:
		l.fee.Add(l.amount, big.NewInt(1))
	}
	return l
}

// signers of a letter, mostly enough of a set that counts.
func (c chance) signers(p api.Post, l *letter) {
	if l.set = len(p.Sets) - 1; c.Intn(6) == 0 {
		l.set = c.Intn(len(p.Sets) + 1)
	}
	k := p.Sets[min(l.set, len(p.Sets)-1)].Keys
	for i := range k {
		if 3*(len(l.by)+len(k)-i) <= 2*len(k)+3 || c.Intn(5) > 0 {
			l.who, l.by = append(l.who, i), append(l.by, c.secrets[k[i]])
		}
	}
	at := c.Intn(len(l.by))
	switch c.Intn(40) {
	case 0:
		l.who, l.by = l.who[1:], l.by[1:]
	case 1:
		l.who, l.by = nil, nil
	case 2:
		l.by[at] = l.by[at]%30 + 1
	case 3:
		l.who[at] += len(k)
	case 4:
		l.who[at] = l.who[0]
	}
}

// beginning of a walk: a post with little or much.
func (c chance) beginning() api.Post {
	p := stand(c.Intn(3))
	if c.Intn(3) == 0 {
		p.Assets[p.Chain].Coin = crowd(40)
		p.Assets[(p.Chain+1)%3].Coin = crowd(39 + c.Intn(2))
	}
	if c.Intn(4) == 0 {
		p.Sent, p.Next = great(p.Chain).Sent[:250], 250
	}
	if c.Intn(4) == 0 {
		p.Assets[p.Chain].Coin = rich(0, api.U256{0, 500}, api.U256{full, 80}).Assets[0].Coin
		for i := range p.Assets {
			p.Assets[i].Decimals = min(p.Assets[i].Decimals, 8+2*c.Intn(2))
		}
		p.Assets[(p.Chain+1)%3].Decimals, p.Assets[(p.Chain+2)%3].Decimals = 3, 8
	}
	if c.Intn(5) == 0 {
		p.Assets[(p.Chain+1)%3].Coin = api.Coin{Supply: api.U256{full - 70, full, full, full}, Holds: []api.Holding{{Who: bob, Amount: api.U256{full - 70, full, full, full}}}}
	}
	if c.Intn(6) == 0 {
		p.Now = latest - 90
		p.Sets[0].Until, p.Sets[1].Until = 5, latest-80
	}
	return p
}

// P16.4 to P16.7: many calls one behind another, held against a book.
func TestWalk(t *testing.T) {
	c := newChance(16)
	count := map[string]int{}
	for range 60 {
		p := c.beginning()
		for range 150 {
			x, l := c.call(p)
			b := openBook(p)
			want, wrong := p, b.do(x, l)
			if wrong == api.OK {
				want = b.close()
			}
			what := fmt.Sprint("kind ", x.Kind)
			if x.Kind == api.Take {
				what += fmt.Sprint(" of ", l.kind)
			}
			count[fmt.Sprint(what, ": ", int(wrong))]++
			got, e := post.Do(toy(), p, x)
			if !same(got, want) || e != wrong || post.Check(got) != api.OK {
				t.Fatalf("%s: %s, %d, want %d", what, apart(got, want), e, wrong)
			}
			p = got
		}
	}
	for what, wrong := range map[string][]api.Errno{
		"kind 1":      {api.OK, api.ErrNone, api.ErrRange, api.ErrFunds, api.ErrDust, api.ErrFull},
		"kind 2 of 1": {api.OK, api.ErrNone, api.ErrLate, api.ErrFew, api.ErrRange, api.ErrForm, api.ErrSign, api.ErrTwice, api.ErrFunds, api.ErrFull},
		"kind 2 of 2": {api.OK, api.ErrNone, api.ErrLate, api.ErrFew, api.ErrRange, api.ErrForm, api.ErrSign, api.ErrTwice, api.ErrFull},
		"kind 2 of 3": {api.OK, api.ErrNone, api.ErrLate, api.ErrFew, api.ErrRange, api.ErrForm, api.ErrSign, api.ErrTwice, api.ErrFunds, api.ErrFull},
		"kind 2 of 4": {api.OK, api.ErrNone, api.ErrRange, api.ErrTwice, api.ErrFull},
		"kind 2 of 5": {api.ErrKind},
		"kind 3":      {api.OK, api.ErrNone, api.ErrFull},
		"kind 4":      {api.OK, api.ErrRange},
	} {
		for _, e := range wrong {
			if n := count[fmt.Sprint(what, ": ", int(e))]; n < 3 {
				t.Errorf("%s came to %d: %d times", what, e, n)
			}
		}
	}
}

// bridge: three posts, and what is on its way between them.
type bridge struct {
	posts [3]api.Post
	way   []api.Body
}

// do a call at a chain; what is sent is on its way.
func (b *bridge) do(at int, x api.Call) api.Errno {
	p, e := post.Do(toy(), b.posts[at], x)
	if len(p.Sent) > len(b.posts[at].Sent) {
		b.way = append(b.way, p.Sent[len(p.Sent)-1])
	}
	b.posts[at] = p
	return e
}

// bring a message that is on its way to a chain.
func (b *bridge) bring(i, at int) api.Errno {
	s := scene{body: b.way[i]}
	s.all(0)
	x := api.Call{Kind: api.Take, Who: bob, Paper: s.paper()}
	return b.do(at, x)
}

// P16.5, P16.6: as much is locked of a token as there is of it elsewhere, and on its way.
func TestBridge(t *testing.T) {
	c := newChance(161)
	for _, decimals := range []int{6, 8, 10} {
		var b bridge
		for at := range b.posts {
			a := api.Asset{Token: [32]byte{7}, Home: at, Decimals: decimals, Coin: crowd(5)}
			var e api.Errno
			if b.posts[at], e = post.Begin(at, keys(secrets(0)...), []api.Asset{a}); e != api.OK {
				t.Fatal(e)
			}
		}
		for at := range 3 {
			if e := b.do(at, api.Call{Kind: api.Tell, Token: [32]byte{7}}); e != api.OK {
				t.Fatal(e)
			}
			for _, other := range []int{(at + 1) % 3, (at + 2) % 3} {
				if e := b.bring(at, other); e != api.OK {
					t.Fatal(e)
				}
			}
		}
		b.way = nil
		arrived := 0
		for range 400 {
			at := c.Intn(3)
			if len(b.way) > 0 && c.Intn(2) == 0 {
				i := c.Intn(len(b.way))
				if e := b.bring(i, at); e == api.OK {
					b.way = slices.Delete(b.way, i, i+1)
					arrived++
				}
			} else {
				a := b.posts[at].Assets[c.Intn(3)]
				x := api.Call{Kind: api.Send, Token: a.Token, Home: a.Home, To: [32]byte{byte(c.Intn(6))}, ToChain: c.Intn(3)}
				if l := a.Coin.Holds; len(l) > 0 {
					x.Who = l[c.Intn(len(l))].Who
				}
				x.Amount, x.Fee = api.U256{100 * uint64(c.Intn(5))}, api.U256{100 * uint64(c.Intn(3))}
				if a.Home != at {
					x.Amount, x.Fee = api.U256{uint64(c.Intn(5))}, api.U256{uint64(c.Intn(2))}
				}
				b.do(at, x)
			}
			b.balance(t)
		}
		if arrived < 40 {
			t.Errorf("%d have arrived", arrived)
		}
	}
}

// balance of each token: what is locked is what is elsewhere, and on its way.
func (b *bridge) balance(t *testing.T) {
	t.Helper()
	for home, p := range b.posts {
		book := openBook(p)
		e := book.assets[book.asset([32]byte{7}, home)]
		locked, elsewhere := new(big.Int), new(big.Int)
		if n := e.holds[vault]; n != nil {
			locked.Div(n, e.factor())
		}
		for at, q := range b.posts {
			if at != home {
				other := openBook(q)
				elsewhere.Add(elsewhere, other.assets[other.asset([32]byte{7}, home)].supply())
			}
		}
		for _, m := range b.way {
			if int(m.Load[66]) == home {
				elsewhere.Add(elsewhere, new(big.Int).SetBytes(m.Load[1:33]))
			}
		}
		if locked.Cmp(elsewhere) != 0 {
			t.Fatalf("%v are locked of %d, and %v are elsewhere", locked, home, elsewhere)
		}
	}
}

// secp256k1: a curve on which no two sums are alike.
func secp256k1() api.Curve {
	return api.Curve{
		P:    api.U256{0xfffffffefffffc2f, full, full, full},
		B:    api.U256{7},
		N:    api.U256{0xbfd25e8cd0364141, 0xbaaedce6af48a03b, 0xfffffffffffffffe, full},
		Base: api.Point{X: api.U256{0x59f2815b16f81798, 0x029bfcdb2dce28d9, 0x55a06295ce870b07, 0x79be667ef9dcbbac}, Y: api.U256{0x9c47d08ffb10d4b8, 0xfd17b448a6855419, 0x5da4fbfc0e1108a8, 0x483ada7726a3c465}},
	}
}

// P16.6: no byte of a paper may be another one, neither of what is signed nor of how.
func TestTurnedBytes(t *testing.T) {
	c := secp256k1()
	secret := api.U256{77, 1, 2, 3}
	q, e := sign.Point(c, secret)
	if e != api.OK {
		t.Fatal(e)
	}
	p, e := post.Begin(0, []api.Key{sign.KeyOf(q)}, []api.Asset{{Token: [32]byte{7}, Decimals: 10, Coin: hold(60000, 5)}})
	if e != api.OK {
		t.Fatal(e)
	}
	x := api.Call{Kind: api.Take, Who: bob, Paper: signedAlone(t, c, secret, api.Body{Time: 1, Chain: 1, Emitter: post.Emitter(1), Number: 3, Load: paid(0, 0)})}
	got, e := post.Do(c, p, x)
	want := passed(deep(p), 1, 3)
	want.Assets[0].Coin = api.Coin{Supply: api.U256{60005}, Holds: []api.Holding{{Who: cleo, Amount: api.U256{300}}, {Who: ann, Amount: api.U256{5}}, {Who: bob, Amount: api.U256{200}}, {Who: vault, Amount: api.U256{59500}}}}
	if !same(got, want) || e != api.OK {
		t.Errorf("%s, %d", apart(got, want), e)
	}
	for i := range x.Paper {
		x.Paper[i] ^= 1 << (i % 8)
		if got, e := post.Do(c, p, x); !same(got, p) || e == api.OK {
			t.Errorf("byte %d: %s, %d", i, apart(got, p), e)
		}
		x.Paper[i] ^= 1 << (i % 8)
	}
	for n := range x.Paper {
		short := x
		short.Paper = x.Paper[:n]
		if got, e := post.Do(c, p, short); !same(got, p) || e == api.OK {
			t.Errorf("%d bytes: %s, %d", n, apart(got, p), e)
		}
	}
}
