package tape_test

import (
	"bytes"
	"fmt"
	"testing"

	"bascule/api"
	"bascule/tape"
)

func TestPut(t *testing.T) {
	for _, c := range []struct {
		n, size int
		want    []byte
	}{
		{0, 0, []byte{9}},
		{7, 1, []byte{9, 7}},
		{7, 3, []byte{9, 0, 0, 7}},
		{0x010203, 3, []byte{9, 1, 2, 3}},
		{0x7f01020304050607, 8, []byte{9, 0x7f, 1, 2, 3, 4, 5, 6, 7}},
	} {
		if got := tape.Put([]byte{9}, c.n, c.size); !bytes.Equal(got, c.want) {
			t.Errorf("%d in %d: %v, want %v", c.n, c.size, got, c.want)
		}
		if n := tape.EyeOn(c.want[1:]).Number(c.size); n != c.n {
			t.Errorf("%d of %d: %d", c.n, c.size, n)
		}
	}
}

func TestPutWide(t *testing.T) {
	a := api.U256{0x18191a1b1c1d1e1f, 0x1011121314151617, 0x08090a0b0c0d0e0f, 0x0001020304050607}
	want := []byte{9}
	for i := range 32 {
		want = append(want, byte(i))
	}
	if got := tape.PutWide([]byte{9}, a); !bytes.Equal(got, want) {
		t.Errorf("%v, want %v", got, want)
	}
	if got := tape.EyeOn(want[1:]).Wide(); got != a {
		t.Errorf("%v, want %v", got, a)
	}
	if got := tape.EyeOn(want).Word(); got != [32]byte(want[:32]) {
		t.Errorf("%v, want %v", got, want[:32])
	}
}

// An eye keeps its place, tells copies, and sees noughts behind the end.
func TestEye(t *testing.T) {
	b := []byte{1, 2, 3, 4, 5, 6}
	next := tape.EyeOn(b[:5])
	first := next(2)
	if n := next.Number(1); n != 3 || !bytes.Equal(first, []byte{1, 2}) {
		t.Errorf("%v %d", first, n)
	}
	first[0], first[1] = 8, 8
	if last := next(4); !bytes.Equal(last, []byte{4, 5, 0, 0}) {
		t.Errorf("behind the end: %v", last)
	}
	if n := next.Number(8); n != 0 || !bytes.Equal(b, []byte{1, 2, 3, 4, 5, 6}) {
		t.Errorf("%d %v", n, b)
	}
	if n := tape.EyeOn(bytes.Repeat([]byte{255}, 8)).Number(8); n >= 0 {
		t.Errorf("%d", n)
	}
	if w := tape.EyeOn(nil).Word(); w != [32]byte{} {
		t.Error(w)
	}
}

func ExampleEyeOn() {
	next := tape.EyeOn(tape.Put(tape.Put(nil, 515, 2), 7, 1))
	fmt.Println(next.Number(2))
	fmt.Println(next.Number(1))
	// Output:
	// 515
	// 7
}
