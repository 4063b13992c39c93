package load

import (
	"slices"

	"bascule/api"
	"bascule/tape"
)

// turn: a new set of keys.
type turn struct {
	index int
	keys  []api.Key
}

func (x *turn) take(l api.Load) { x.index, x.keys = l.Index, l.Keys }

func (x *turn) give() api.Load {
	l := api.Load{Index: x.index}
	l.Keys = slices.Clone(x.keys)
	return l
}

func (x *turn) mayBe() bool {
	return within(x.index, maxIndex) && len(x.keys) > 0 && len(x.keys) <= api.MaxKeys
}

func (x *turn) put(b []byte) []byte {
	b = tape.Put(b, x.index, 4)
	b = tape.Put(b, len(x.keys), 1)
	for _, k := range x.keys {
		b = append(b, k[:]...)
	}
	return b
}

func (x *turn) read(b []byte) {
	next := tape.EyeOn(b)
	x.index = next.Number(4)
	keys := make([]api.Key, next.Number(1))
	for i := range keys {
		keys[i] = api.Key(next(sizeKey))
	}
	x.keys = keys
}

func (x *turn) size() int { return sizeTurn + sizeKey*len(x.keys) }
