package paper

import (
	"bascule/api"
	"bascule/wide"
)

// put a number behind bytes, in so many, the highest one first.
func put(b []byte, n, size int) []byte {
	for i := size - 1; i >= 0; i-- {
		b = append(b, byte(n>>(8*i)))
	}
	return b
}

func putWide(b []byte, a api.U256) []byte {
	word := wide.Bytes(a)
	return append(b, word[:]...)
}

func putPaper(b []byte, x api.Paper) []byte {
	b = put(b, api.Version, 1)
	b = put(b, x.Set, 4)
	b = put(b, len(x.Signs), 1)
	for _, s := range x.Signs {
		b = putSigned(b, s)
	}
	return putBody(b, x.Body)
}

func putSigned(b []byte, s api.Signed) []byte {
	b = put(b, s.Who, 1)
	b = putWide(b, s.Sign.R)
	b = putWide(b, s.Sign.S)
	return put(b, s.Sign.Odd, 1)
}

func putBody(b []byte, x api.Body) []byte {
	b = put(b, x.Time, 8)
	b = put(b, x.Nonce, 4)
	b = put(b, x.Chain, 2)
	b = append(b, x.Emitter[:]...)
	b = put(b, x.Number, 8)
	b = put(b, x.Level, 1)
	return append(b, x.Load...)
}
