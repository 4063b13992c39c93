// Package tape: numbers as bytes, one behind another, and an eye that reads them.
package tape

import (
	"bascule/api"
	"bascule/wide"
)

// Put a number behind bytes, in so many, the highest one first.
func Put(b []byte, n, size int) []byte {
	for i := size - 1; i >= 0; i-- {
		b = append(b, byte(n>>(8*i)))
	}
	return b
}

// PutWide puts a number of 256 bits behind bytes.
func PutWide(b []byte, a api.U256) []byte {
	word := wide.Bytes(a)
	return append(b, word[:]...)
}

// Eye on bytes: it tells a copy of the next ones, so many as it is asked for, and
// keeps its place behind them. Behind the last one it sees noughts.
type Eye func(size int) []byte

// EyeOn bytes.
func EyeOn(b []byte) Eye {
	return func(size int) []byte {
		part := make([]byte, size)
		n := copy(part, b)
		b = b[n:]
		return part
	}
}

// Number whose highest byte is the first one. Of eight bytes it is below 0 if it is
// not below 2^63.
func (next Eye) Number(size int) int {
	var n uint64
	for _, b := range next(size) {
		n = n<<8 | uint64(b)
	}
	return int(n)
}

// Word: 32 bytes.
func (next Eye) Word() [32]byte { return [32]byte(next(32)) }

// Wide number of 256 bits.
func (next Eye) Wide() api.U256 { return wide.From(next.Word()) }
