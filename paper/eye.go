package paper

import (
	"bascule/api"
	"bascule/wide"
)

// eye on bytes: it tells a copy of the next ones, so many as it is asked for, and
// keeps its place behind them.
type eye func(size int) []byte

func eyeOn(b []byte) eye {
	return func(size int) []byte {
		part := make([]byte, size)
		n := copy(part, b)
		b = b[n:]
		return part
	}
}

// number whose highest byte is the first one. Of eight bytes it is below 0 if it is
// not below 2^63.
func (next eye) number(size int) int {
	var n uint64
	for _, b := range next(size) {
		n = n<<8 | uint64(b)
	}
	return int(n)
}

func (next eye) word() [32]byte { return [32]byte(next(32)) }

func (next eye) wide() api.U256 { return wide.From(next.word()) }

// paper of all bytes, which are so many.
func (next eye) paper(size int) api.Paper {
	next.number(1)
	var x api.Paper
	x.Set = next.number(4)
	x.Signs = make([]api.Signed, next.number(1))
	for i := range x.Signs {
		x.Signs[i] = next.signed()
	}
	x.Body = next.body(size - sizeHead - len(x.Signs)*sizeSigned)
	return x
}

func (next eye) signed() api.Signed {
	var s api.Signed
	s.Who = next.number(1)
	s.Sign.R = next.wide()
	s.Sign.S = next.wide()
	s.Sign.Odd = next.number(1)
	return s
}

// body: a message of so many bytes.
func (next eye) body(size int) api.Body {
	var x api.Body
	x.Time = next.number(8)
	x.Nonce = next.number(4)
	x.Chain = next.number(2)
	x.Emitter = next.word()
	x.Number = next.number(8)
	x.Level = next.number(1)
	x.Load = next(size - sizeBody)
	return x
}
