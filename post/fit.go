package post

import (
	"slices"

	"bascule/api"
	"bascule/coin"
	"bascule/paper"
)

// mostDecimals that a token may have where it is at home.
const mostDecimals = 77

// chained: is there such a chain?
func chained(n int) bool { return n >= 0 && n < api.MaxChains }

// narrow: is a number below 2^64?
func narrow(a api.U256) bool { return a == api.U256{a[0]} }

// named: what tells whether an asset has this token and home.
func named(token [32]byte, home int) func(a api.Asset) bool {
	return func(a api.Asset) bool { return a.Token == token && a.Home == home }
}

// assetsFit: may a post have its assets?
func assetsFit(p api.Post) bool {
	if len(p.Assets) > api.MaxAssets {
		return false
	}
	for i, a := range p.Assets {
		if !chained(a.Home) || !decimalsFit(a, p.Chain) || coin.Check(a.Coin) != api.OK {
			return false
		}
		if slices.ContainsFunc(p.Assets[:i], named(a.Token, a.Home)) {
			return false
		}
	}
	return true
}

// decimalsFit: may an asset have its decimals on this chain? From another chain none
// but few of them are handed over.
func decimalsFit(a api.Asset, chain int) bool {
	most := mostDecimals
	if a.Home != chain {
		most = api.Places
	}
	return a.Decimals >= 0 && a.Decimals <= most
}

// sentFit: may a post have sent its messages?
func sentFit(p api.Post) bool {
	if p.Next != len(p.Sent) || p.Next > api.MaxSeen {
		return false
	}
	for i, b := range p.Sent {
		if paper.Check(b) != api.OK || b.Number != i || b.Chain != p.Chain || b.Emitter != Emitter(p.Chain) {
			return false
		}
	}
	return true
}
