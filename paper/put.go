package paper

import (
	"bascule/api"
	"bascule/tape"
)

func putPaper(b []byte, x api.Paper) []byte {
	b = tape.Put(b, api.Version, 1)
	b = tape.Put(b, x.Set, 4)
	b = tape.Put(b, len(x.Signs), 1)
	for _, s := range x.Signs {
		b = putSigned(b, s)
	}
	return putBody(b, x.Body)
}

func putSigned(b []byte, s api.Signed) []byte {
	b = tape.Put(b, s.Who, 1)
	b = tape.PutWide(b, s.Sign.R)
	b = tape.PutWide(b, s.Sign.S)
	return tape.Put(b, s.Sign.Odd, 1)
}

func putBody(b []byte, x api.Body) []byte {
	b = tape.Put(b, x.Time, 8)
	b = tape.Put(b, x.Nonce, 4)
	b = tape.Put(b, x.Chain, 2)
	b = append(b, x.Emitter[:]...)
	b = tape.Put(b, x.Number, 8)
	b = tape.Put(b, x.Level, 1)
	return append(b, x.Load...)
}
