package post

import (
	"bascule/api"
	"bascule/coin"
	"bascule/scale"
	"bascule/wide"
)

// send tokens to another chain (P16.5).
func (d *desk) send() api.Errno {
	x := d.call
	a, e := d.asset(x.Token, x.Home)
	if e != api.OK {
		return e
	}
	if !chained(x.ToChain) || x.ToChain == d.Chain {
		return api.ErrRange
	}
	if x.Amount == (api.U256{}) || wide.Cmp(x.Amount, x.Fee) < 0 || x.Who == Vault() {
		return api.ErrFunds
	}
	amount, e := said(x.Amount, a.Decimals)
	if e != api.OK {
		return e
	}
	fee, e := said(x.Fee, a.Decimals)
	if e != api.OK {
		return e
	}
	if e := d.leave(a, x.Who, x.Amount); e != api.OK {
		return e
	}
	return d.say(api.Load{
		Kind: api.Transfer, Amount: amount, Fee: fee, Token: x.Token, Home: x.Home, To: x.To, ToChain: x.ToChain,
	})
}

// said: an amount as messages say it, without its decimals.
func said(n api.U256, decimals int) (api.U256, api.Errno) {
	few, dust, e := scale.Down(n, decimals)
	switch {
	case e != api.OK:
		return api.U256{}, e
	case dust != api.U256{}:
		return api.U256{}, api.ErrDust
	case !narrow(few):
		return api.U256{}, api.ErrFunds
	}
	return few, api.OK
}

// leave: what somebody sends is locked where the token is at home, and burnt elsewhere.
func (d *desk) leave(a *api.Asset, who [32]byte, n api.U256) api.Errno {
	var e api.Errno
	if a.Home != d.Chain {
		a.Coin, e = coin.Burn(a.Coin, who, n)
		return e
	}
	a.Coin, e = coin.Move(a.Coin, who, Vault(), n)
	if e != api.OK {
		return e
	}
	return lookVault(*a)
}

// lookVault: look whether messages could say all that is locked of an asset.
func lookVault(a api.Asset) api.Errno {
	locked, e := coin.Of(a.Coin, Vault())
	if e != api.OK {
		return e
	}
	few, _, e := scale.Down(locked, a.Decimals)
	if e != api.OK {
		return e
	}
	if !narrow(few) {
		return api.ErrFull
	}
	return api.OK
}
