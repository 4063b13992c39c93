package load

import "bascule/api"

// said: what a load says. Of each kind it is a type of its own, with the fields that
// loads of this kind have, and no others.
type said interface {
	// take its fields from a load.
	take(l api.Load)
	// give a load with its fields, whose lists are new.
	give() api.Load
	// mayBe: are its fields within their bounds?
	mayBe() bool
	// put it behind bytes.
	put(b []byte) []byte
	// read it from all these bytes; what is not there is nought.
	read(b []byte)
	// size: how many bytes it has.
	size() int
}

// blank: of a kind what says nothing yet.
func blank(kind int) (said, api.Errno) {
	switch kind {
	case api.Transfer:
		return &transfer{}, api.OK
	case api.Meta:
		return &meta{}, api.OK
	case api.Pass:
		return &pass{}, api.OK
	case api.Turn:
		return &turn{}, api.OK
	}
	return nil, api.ErrKind
}

// The greatest numbers that a load may have.
const (
	maxChain    = 1<<16 - 1
	maxDecimals = 77
	maxData     = 100
	maxIndex    = 1<<32 - 1
)

// How many bytes the parts of loads have.
const (
	sizeTransfer = 32 + 32 + 2 + 32 + 2 + 32
	sizeSymbol   = 32
	sizeMeta     = 32 + 2 + 1 + sizeSymbol
	sizeTurn     = 4 + 1
	sizeKey      = 20
)

// within: is a number from 0 to the greatest one?
func within(n, most int) bool { return n >= 0 && n <= most }
