package paper

import (
	"bascule/api"
	"bascule/tape"
)

// readPaper from bytes that have all its parts.
func readPaper(b []byte) api.Paper {
	next := tape.EyeOn(b)
	next.Number(1)
	var x api.Paper
	x.Set = next.Number(4)
	x.Signs = make([]api.Signed, next.Number(1))
	for i := range x.Signs {
		x.Signs[i] = readSigned(next)
	}
	x.Body = readBody(next, len(b)-sizeHead-len(x.Signs)*sizeSigned)
	return x
}

func readSigned(next tape.Eye) api.Signed {
	var s api.Signed
	s.Who = next.Number(1)
	s.Sign.R = next.Wide()
	s.Sign.S = next.Wide()
	s.Sign.Odd = next.Number(1)
	return s
}

// readBody: a message of so many bytes.
func readBody(next tape.Eye, size int) api.Body {
	var x api.Body
	x.Time = next.Number(8)
	x.Nonce = next.Number(4)
	x.Chain = next.Number(2)
	x.Emitter = next.Word()
	x.Number = next.Number(8)
	x.Level = next.Number(1)
	x.Load = next(size - sizeBody)
	return x
}
