package sign

import (
	"testing"

	"bascule/api"
	"bascule/keccak"
	"bascule/wide"
)

// P5.3: what is tried, one by one. It is asked of the number itself, as no signature
// shows where sums end, and small numbers: the same comes of the same rest.
func TestNumber(t *testing.T) {
	d := api.U256{4, 3, 2, 0x0100000000000000}
	h := [32]byte{5, 31: 6}
	for i := range 256 {
		b := [65]byte{0: 1, 15: 2, 23: 3, 31: 4, 32: 5, 63: 6, 64: byte(i)}
		if got, want := number(d, h, i), wide.From(keccak.Sum(b[:])); got != want {
			t.Errorf("try %d: %v, want %v", i, got, want)
		}
	}
	for i := range uint64(16) {
		if got, want := number(d, h, 256+int(i)), (api.U256{1 + i}); got != want {
			t.Errorf("try %d: %v, want %v", 256+i, got, want)
		}
	}
	if tries != 272 {
		t.Errorf("%d tries", tries)
	}
}
