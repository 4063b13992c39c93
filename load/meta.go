package load

import (
	"strings"

	"bascule/api"
	"bascule/tape"
)

// nought: the byte that fills the room behind a symbol.
const nought = "\x00"

// meta: what a token is.
type meta struct {
	token    [32]byte
	home     int
	decimals int
	symbol   string
}

func (x *meta) take(l api.Load) {
	x.token, x.home = l.Token, l.Home
	x.decimals, x.symbol = l.Decimals, l.Symbol
}

func (x *meta) give() api.Load {
	return api.Load{Token: x.token, Home: x.home, Decimals: x.decimals, Symbol: x.symbol}
}

func (x *meta) mayBe() bool {
	return within(x.home, maxChain) && within(x.decimals, maxDecimals) &&
		len(x.symbol) <= sizeSymbol && !strings.Contains(x.symbol, nought)
}

func (x *meta) put(b []byte) []byte {
	b = append(b, x.token[:]...)
	b = tape.Put(b, x.home, 2)
	b = tape.Put(b, x.decimals, 1)
	var room [sizeSymbol]byte
	copy(room[:], x.symbol)
	return append(b, room[:]...)
}

func (x *meta) read(b []byte) {
	next := tape.EyeOn(b)
	x.token = next.Word()
	x.home = next.Number(2)
	x.decimals = next.Number(1)
	x.symbol = strings.TrimRight(string(next(sizeSymbol)), nought)
}

func (x *meta) size() int { return sizeMeta }
