package post

import (
	"bascule/api"
	"bascule/coin"
	"bascule/load"
	"bascule/paper"
	"bascule/quorum"
	"bascule/scale"
	"bascule/seen"
	"bascule/sets"
	"bascule/wide"
)

// take a paper, and do what it says (P16.6).
func (d *desk) take() api.Errno {
	b, e := d.read()
	if e != api.OK {
		return e
	}
	l, e := load.Decode(b.Load)
	if e != api.OK {
		return e
	}
	if l.Kind == api.Turn {
		return d.turn(b, l)
	}
	if e := d.mark(b); e != api.OK {
		return e
	}
	if l.Kind == api.Meta {
		return d.list(b, l)
	}
	return d.arrive(l)
}

// read the message of the call's paper, if enough have signed it of a set that counts.
func (d *desk) read() (api.Body, api.Errno) {
	x, e := paper.Decode(d.call.Paper)
	if e != api.OK {
		return api.Body{}, e
	}
	set, e := sets.Live(d.Sets, x.Set, d.Now)
	if e != api.OK {
		return api.Body{}, e
	}
	h, e := paper.Sum(x.Body)
	if e != api.OK {
		return api.Body{}, e
	}
	if e := quorum.Check(d.curve, set, h, x.Signs); e != api.OK {
		return api.Body{}, e
	}
	return x.Body, api.OK
}

// turn to a new set of keys. It is not marked: its Index lets it in but once.
func (d *desk) turn(b api.Body, l api.Load) api.Errno {
	if b.Chain != 0 || b.Emitter != Ruler() {
		return api.ErrNone
	}
	if l.Index != len(d.Sets) {
		return api.ErrRange
	}
	all, e := sets.Turn(d.Sets, l.Keys, d.Now)
	if e != api.OK {
		return e
	}
	d.Sets = all
	return api.OK
}

// mark a message of another chain's post as seen.
func (d *desk) mark(b api.Body) api.Errno {
	if !chained(b.Chain) || b.Chain == d.Chain || b.Emitter != Emitter(b.Chain) {
		return api.ErrNone
	}
	page, e := seen.Mark(d.Seen[b.Chain], b.Number)
	if e != api.OK {
		return e
	}
	d.Seen[b.Chain] = page
	return api.OK
}

// list a token of the chain that a message comes from among the assets.
func (d *desk) list(b api.Body, l api.Load) api.Errno {
	if l.Home != b.Chain {
		return api.ErrNone
	}
	if _, e := d.asset(l.Token, l.Home); e == api.OK {
		return api.ErrTwice
	}
	if len(d.Assets) == api.MaxAssets {
		return api.ErrFull
	}
	d.Assets = append(d.Assets, api.Asset{Token: l.Token, Home: l.Home, Decimals: min(l.Decimals, api.Places)})
	return api.OK
}

// arrive: tokens that were sent here are paid, and so is who has brought the paper.
func (d *desk) arrive(l api.Load) api.Errno {
	if l.ToChain != d.Chain {
		return api.ErrRange
	}
	a, e := d.asset(l.Token, l.Home)
	if e != api.OK {
		return e
	}
	amount, e := scale.Up(l.Amount, a.Decimals)
	if e != api.OK {
		return e
	}
	fee, e := scale.Up(l.Fee, a.Decimals)
	if e != api.OK {
		return e
	}
	// No load has a Fee above its Amount.
	rest, _ := wide.Sub(amount, fee)
	if e := d.pay(a, l.To, rest); e != api.OK {
		return e
	}
	return d.pay(a, d.call.Who, fee)
}

// pay somebody: out of the vault where the token is at home, newly made elsewhere.
func (d *desk) pay(a *api.Asset, who [32]byte, n api.U256) api.Errno {
	var e api.Errno
	if a.Home == d.Chain {
		a.Coin, e = coin.Move(a.Coin, Vault(), who, n)
	} else {
		a.Coin, e = coin.Mint(a.Coin, who, n)
	}
	return e
}
