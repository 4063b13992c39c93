package paper

import "bascule/api"

// The greatest numbers that a paper may have.
const (
	maxByte  = 1<<8 - 1
	maxChain = 1<<16 - 1
	maxNonce = 1<<32 - 1
	maxSet   = 1<<32 - 1
)

// How many bytes the parts of a paper have: what stands ahead of the signatures, one
// of these, and a message without a load.
const (
	sizeHead   = 1 + 4 + 1
	sizeSigned = 1 + 32 + 32 + 1
	sizeBody   = 8 + 4 + 2 + 32 + 8 + 1
)

// look at a paper.
func look(x api.Paper) api.Errno {
	if !within(x.Set, maxSet) {
		return api.ErrRange
	}
	if len(x.Signs) > api.MaxKeys {
		return api.ErrSize
	}
	for _, s := range x.Signs {
		if !within(s.Who, maxByte) || !within(s.Sign.Odd, maxByte) {
			return api.ErrRange
		}
	}
	return Check(x.Body)
}

// lookForm: look whether bytes have all parts of a paper.
func lookForm(b []byte) api.Errno {
	switch {
	case len(b) == 0:
		return api.ErrShort
	case b[0] != api.Version:
		return api.ErrForm
	case len(b) < sizeHead:
		return api.ErrShort
	}
	signs := int(b[sizeHead-1])
	if signs > api.MaxKeys {
		return api.ErrSize
	}
	if len(b) < sizeHead+signs*sizeSigned+sizeBody {
		return api.ErrShort
	}
	return api.OK
}

// within: is a number from 0 to the greatest one?
func within(n, most int) bool { return n >= 0 && n <= most }
