package paper_test

import (
	"bytes"
	"encoding/binary"
	"encoding/hex"
	"fmt"
	"math"
	"math/rand"
	"reflect"
	"slices"
	"testing"

	"bascule/api"
	"bascule/keccak"
	"bascule/paper"
)

const full = ^uint64(0)

// number of a message: its name, its greatest value, and where it stands.
type number struct {
	name string
	most int
	of   func(b *api.Body) *int
}

func numbers() []number {
	return []number{
		{"Time", 1 << 40, func(b *api.Body) *int { return &b.Time }},
		{"Nonce", 4294967295, func(b *api.Body) *int { return &b.Nonce }},
		{"Chain", 65535, func(b *api.Body) *int { return &b.Chain }},
		{"Number", 1 << 40, func(b *api.Body) *int { return &b.Number }},
		{"Level", 255, func(b *api.Body) *int { return &b.Level }},
	}
}

// outside: numbers that are not from 0 to most, some of which are once they are cut.
func outside(most int) []int {
	return []int{
		-1, -2, math.MinInt, math.MinInt + 1, math.MinInt32, -1 << 32, -1 << 40, -256,
		most + 1, most + 2, 2*most + 2, 1<<41 + 3, 1 << 48, 1 << 62, math.MaxInt,
	}
}

func inside(most int) []int { return []int{0, 1, 2, most / 2, most/2 + 1, most - 1, most} }

// body with another number at each place.
func body() api.Body {
	b := api.Body{Time: 0x0102030405, Nonce: 0xa1a2a3a4, Chain: 0xb1b2, Number: 0xc1c2c3c4c5, Level: 0xd1}
	for i := range b.Emitter {
		b.Emitter[i] = byte(i + 32)
	}
	b.Load = []byte("load")
	return b
}

// signs: so many, no two alike.
func signs(n int) []api.Signed {
	var l []api.Signed
	for i := range n {
		u := uint64(i)
		l = append(l, api.Signed{Who: 200 + i, Sign: api.Sign{
			R: api.U256{u, 0x0807060504030201, full - u, u << 56}, S: api.U256{full, u, 1 << 63, 0x1112131415161718 + u}, Odd: 255 - i,
		}})
	}
	return l
}

func wholePaper(n int) api.Paper { return api.Paper{Set: 0xe1e2e3e4, Signs: signs(n), Body: body()} }

// bytesOf a message, and encoded a paper, lean on nothing of the program.
func bytesOf(b api.Body) []byte {
	l := binary.BigEndian.AppendUint64(nil, uint64(b.Time))
	l = binary.BigEndian.AppendUint32(l, uint32(b.Nonce))
	l = binary.BigEndian.AppendUint16(l, uint16(b.Chain))
	l = append(l, b.Emitter[:]...)
	l = binary.BigEndian.AppendUint64(l, uint64(b.Number))
	l = append(l, byte(b.Level))
	return append(l, b.Load...)
}

func encoded(x api.Paper) []byte {
	l := []byte{1}
	l = binary.BigEndian.AppendUint32(l, uint32(x.Set))
	l = append(l, byte(len(x.Signs)))
	for _, s := range x.Signs {
		l = append(l, byte(s.Who))
		for _, a := range []api.U256{s.Sign.R, s.Sign.S} {
			for i := 3; i >= 0; i-- {
				l = binary.BigEndian.AppendUint64(l, a[i])
			}
		}
		l = append(l, byte(s.Sign.Odd))
	}
	return append(l, bytesOf(x.Body)...)
}

// refused by all that refuse a message.
func refused(t *testing.T, what string, b api.Body, want api.Errno) {
	t.Helper()
	if e := paper.Check(b); e != want {
		t.Errorf("%s: Check: %d, want %d", what, e, want)
	}
	if l, e := paper.Bytes(b); len(l) != 0 || e != want {
		t.Errorf("%s: Bytes: %v %d, want %d", what, l, e, want)
	}
	if h, e := paper.Sum(b); h != [32]byte{} || e != want {
		t.Errorf("%s: Sum: %v %d, want %d", what, h, e, want)
	}
	if l, e := paper.Encode(api.Paper{Body: b}); len(l) != 0 || e != want {
		t.Errorf("%s: Encode: %v %d, want %d", what, l, e, want)
	}
}

// P7.1: numbers within their bounds, and at them.
func TestCheck(t *testing.T) {
	for _, n := range numbers() {
		for _, v := range inside(n.most) {
			b := body()
			*n.of(&b) = v
			if e := paper.Check(b); e != api.OK {
				t.Errorf("%s %d: %d", n.name, v, e)
			}
		}
	}
	for n := range api.MaxLoad + 1 {
		if e := paper.Check(api.Body{Load: make([]byte, n)}); e != api.OK {
			t.Errorf("load of %d: %d", n, e)
		}
	}
	if e := paper.Check(api.Body{}); e != api.OK {
		t.Errorf("nothing: %d", e)
	}
}

// P7.1, P7.2, P7.3, P7.4: what may not be.
func TestRefused(t *testing.T) {
	for _, n := range numbers() {
		for _, v := range outside(n.most) {
			b := body()
			*n.of(&b) = v
			refused(t, fmt.Sprint(n.name, " ", v), b, api.ErrRange)
			b.Load = make([]byte, api.MaxLoad+1)
			refused(t, fmt.Sprint(n.name, " and load ", v), b, api.ErrRange)
		}
	}
	for _, n := range []int{301, 302, 512, 600, 1 << 16} {
		b := body()
		b.Load = make([]byte, n)
		refused(t, fmt.Sprint("load of ", n), b, api.ErrSize)
	}
}

// P7.2
func TestBytes(t *testing.T) {
	want, _ := hex.DecodeString("0000000102030405" + "a1a2a3a4" + "b1b2" +
		"202122232425262728292a2b2c2d2e2f303132333435363738393a3b3c3d3e3f" +
		"000000c1c2c3c4c5" + "d1" + "6c6f6164")
	b := body()
	if l, e := paper.Bytes(b); e != api.OK || !bytes.Equal(l, want) {
		t.Errorf("%x %d, want %x", l, e, want)
	}
	for _, n := range numbers() {
		for _, v := range inside(n.most) {
			b := body()
			*n.of(&b) = v
			if l, e := paper.Bytes(b); e != api.OK || !bytes.Equal(l, bytesOf(b)) {
				t.Errorf("%s %d: %x %d", n.name, v, l, e)
			}
		}
	}
	for n := range api.MaxLoad + 1 {
		b.Load = bytes.Repeat([]byte{7, 0, 255}, n)[:n]
		if l, e := paper.Bytes(b); e != api.OK || !bytes.Equal(l, bytesOf(b)) {
			t.Errorf("load of %d: %x %d", n, l, e)
		}
	}
}

// P7.3
func TestSum(t *testing.T) {
	for n := range api.MaxLoad + 1 {
		b := body()
		b.Load = bytes.Repeat([]byte{byte(n)}, n)
		once := keccak.Sum(bytesOf(b))
		if h, e := paper.Sum(b); e != api.OK || h != keccak.Sum(once[:]) {
			t.Errorf("load of %d: %x %d", n, h, e)
		}
	}
	// Each field counts, a nought at the end of the load, too.
	seen := map[[32]byte]int{}
	others := []api.Body{body(), body(), body()}
	others[1].Emitter[31]++
	others[2].Load = append(others[2].Load, 0)
	for _, n := range numbers() {
		b := body()
		*n.of(&b)--
		others = append(others, b)
	}
	for i, b := range others {
		h, e := paper.Sum(b)
		if j, there := seen[h]; there || e != api.OK {
			t.Errorf("%d and %d: %x %d", i, j, h, e)
		}
		seen[h] = i
	}
}

// P7.4, P7.5: papers with each number of signatures, and back.
func TestEncode(t *testing.T) {
	for n := range api.MaxKeys + 1 {
		x := wholePaper(n)
		l, e := paper.Encode(x)
		if e != api.OK || !bytes.Equal(l, encoded(x)) {
			t.Errorf("%d: %x %d, want %x", n, l, e, encoded(x))
		}
		if len(l) != 6+66*n+55+4 {
			t.Errorf("%d: %d bytes", n, len(l))
		}
		back(t, x)
	}
	for _, v := range inside(4294967295) {
		x := wholePaper(1)
		x.Set = v
		back(t, x)
	}
	for v := range 256 {
		x := wholePaper(2)
		x.Signs[0].Who, x.Signs[1].Sign.Odd = v, 255-v
		back(t, x)
	}
	for _, n := range numbers() {
		for _, v := range inside(n.most) {
			x := wholePaper(1)
			*n.of(&x.Body) = v
			back(t, x)
		}
	}
	for n := range api.MaxLoad + 1 {
		x := wholePaper(n % 3)
		x.Body.Load = bytes.Repeat([]byte{byte(n), 1}, n)[:n]
		back(t, x)
	}
}

// back: a paper is read as it was written.
func back(t *testing.T, x api.Paper) {
	t.Helper()
	l, e := paper.Encode(x)
	if e != api.OK || !bytes.Equal(l, encoded(x)) {
		t.Errorf("%v: Encode: %x %d", x, l, e)
	}
	if y, e := paper.Decode(l); e != api.OK || !same(x, y) {
		t.Errorf("%v: Decode: %v %d", x, y, e)
	}
}

// same: whether lists without elements are nil does not count.
func same(x, y api.Paper) bool {
	if !slices.Equal(x.Signs, y.Signs) || !bytes.Equal(x.Body.Load, y.Body.Load) {
		return false
	}
	x.Signs, x.Body.Load = y.Signs, y.Body.Load
	return reflect.DeepEqual(x, y)
}

// P7.4: what is told first of what is wrong with a paper. Each fault is refused ahead of
// all that are below it.
func TestEncodeRefused(t *testing.T) {
	faults := []struct {
		name string
		do   func(x *api.Paper)
		want api.Errno
	}{
		{"Set", func(x *api.Paper) { x.Set = 1 << 32 }, api.ErrRange},
		{"many", func(x *api.Paper) { x.Signs = append(x.Signs, signs(18)...) }, api.ErrSize},
		{"first Who", func(x *api.Paper) { x.Signs[0].Who = 256 }, api.ErrRange},
		{"second Odd", func(x *api.Paper) { x.Signs[1].Sign.Odd = -1 }, api.ErrRange},
		{"Time", func(x *api.Paper) { x.Body.Time = -1 }, api.ErrRange},
		{"load", func(x *api.Paper) { x.Body.Load = make([]byte, 301) }, api.ErrSize},
	}
	for mask := 1; mask < 1<<len(faults); mask++ {
		x, want, what := wholePaper(2), api.OK, ""
		for i := len(faults) - 1; i >= 0; i-- {
			if mask>>i&1 == 1 {
				faults[i].do(&x)
				want, what = faults[i].want, faults[i].name+" "+what
			}
		}
		if l, e := paper.Encode(x); len(l) != 0 || e != want {
			t.Errorf("%s: %v %d, want %d", what, l, e, want)
		}
	}
}

// P7.4: numbers of a paper that are outside their bounds, at each place.
func TestEncodeRange(t *testing.T) {
	for _, v := range outside(4294967295) {
		x := wholePaper(2)
		x.Set = v
		if l, e := paper.Encode(x); len(l) != 0 || e != api.ErrRange {
			t.Errorf("Set %d: %v %d", v, l, e)
		}
	}
	for i := range api.MaxKeys {
		for _, v := range outside(255) {
			x, y := wholePaper(api.MaxKeys), wholePaper(api.MaxKeys)
			x.Signs[i].Who, y.Signs[i].Sign.Odd = v, v
			for _, z := range []api.Paper{x, y} {
				z.Body.Load = make([]byte, 301)
				if l, e := paper.Encode(z); len(l) != 0 || e != api.ErrRange {
					t.Errorf("%d at %d: %v %d", v, i, l, e)
				}
			}
		}
	}
	for _, n := range []int{20, 21, 255, 256, 257, 275, 512} {
		x := wholePaper(n)
		if l, e := paper.Encode(x); len(l) != 0 || e != api.ErrSize {
			t.Errorf("%d signatures: %v %d", n, l, e)
		}
	}
}

// notRead: bytes that are refused.
func notRead(t *testing.T, what string, l []byte, want api.Errno) {
	t.Helper()
	if x, e := paper.Decode(l); !reflect.DeepEqual(x, api.Paper{}) || e != want {
		t.Errorf("%s: %v %d, want %d", what, x, e, want)
	}
}

// P7.5: bytes that end too early, anywhere.
func TestShort(t *testing.T) {
	for _, n := range []int{0, 1, 2, 18, 19} {
		x := wholePaper(n)
		x.Body.Load = nil
		l := encoded(x)
		for i := range l {
			notRead(t, fmt.Sprint(n, " signatures, ", i, " bytes"), l[:i:i], api.ErrShort)
			// Bytes in their spare room are none.
			notRead(t, fmt.Sprint(n, " signatures, ", i, " of bytes"), l[:i], api.ErrShort)
		}
		if y, e := paper.Decode(l); e != api.OK || !same(x, y) {
			t.Errorf("%d signatures: %v %d", n, y, e)
		}
	}
}

// P7.5: the first byte, and how many signatures there are, ahead of what is there.
func TestForm(t *testing.T) {
	notRead(t, "nil", nil, api.ErrShort)
	notRead(t, "none", []byte{}, api.ErrShort)
	l := encoded(wholePaper(0))
	for v := range 256 {
		for _, n := range []int{1, 2, 5, 6, 7, 61, len(l)} {
			b := slices.Clone(l[:n])
			b[0] = byte(v)
			switch {
			case v != 1:
				notRead(t, fmt.Sprint("version ", v, " of ", n), b, api.ErrForm)
			case n < 61:
				notRead(t, fmt.Sprint("version ", v, " of ", n), b, api.ErrShort)
			}
		}
		for _, n := range []int{6, 7, 61, 2000, 1 << 16} {
			b := make([]byte, n)
			b[0], b[5] = 1, byte(v)
			want := api.OK
			switch {
			case v > 19:
				want = api.ErrSize
			case n < 6+66*v+55:
				want = api.ErrShort
			case n > 6+66*v+55+300:
				want = api.ErrSize
			}
			if x, e := paper.Decode(b); e != want || e == api.OK && (len(x.Signs) != v || len(x.Body.Load) != n-6-66*v-55) {
				t.Errorf("%d signatures in %d bytes: %v %d, want %d", v, n, x, e, want)
			}
		}
	}
}

// P7.5: numbers that bytes may have, and papers may not.
func TestDecodeRange(t *testing.T) {
	for _, n := range numbers() {
		for v := range uint64(64) {
			x := wholePaper(3)
			*n.of(&x.Body) = int(1 << v)
			if v > 40 && n.most == 1<<40 {
				notRead(t, fmt.Sprint(n.name, " ", v), encoded(x), api.ErrRange)
				x.Body.Load = make([]byte, 301)
				notRead(t, fmt.Sprint(n.name, " and load ", v), encoded(x), api.ErrRange)
			}
		}
		if n.most == 1<<40 {
			for _, v := range []int{1<<40 + 1, math.MaxInt, math.MinInt, math.MinInt + 1, -1, -1 << 40} {
				x := wholePaper(3)
				*n.of(&x.Body) = v
				notRead(t, fmt.Sprint(n.name, " ", v), encoded(x), api.ErrRange)
			}
		}
	}
	for _, n := range []int{301, 302, 1000, 1 << 17} {
		x := wholePaper(2)
		x.Body.Load = make([]byte, n)
		notRead(t, fmt.Sprint("load of ", n), encoded(x), api.ErrSize)
	}
	// Signatures and their makers may be anything that bytes are.
	x := api.Paper{Set: 4294967295, Signs: []api.Signed{
		{Who: 255, Sign: api.Sign{R: api.U256{full, full, full, full}, S: api.U256{full, full, full, full}, Odd: 255}}, {}, {Who: 255},
	}}
	back(t, x)
}

// P7.4, P7.5: of all bytes that are a paper, none other has the same ones.
func TestRandom(t *testing.T) {
	r := rand.New(rand.NewSource(7))
	read := 0
	for range 20000 {
		b := make([]byte, 6+r.Intn(500))
		r.Read(b)
		copy(b, []byte{1, byte(r.Intn(256)), 2, 3, 4, byte(r.Intn(7))})
		// The numbers of eight bytes begin with noughts, or all but never may be.
		if n := 6 + 66*int(b[5]); n+55 <= len(b) {
			clear(b[n : n+r.Intn(5)])
			clear(b[n+46 : n+46+r.Intn(5)])
		}
		x, e := paper.Decode(b)
		if e != api.OK {
			continue
		}
		read++
		if l, e := paper.Encode(x); e != api.OK || !bytes.Equal(l, b) {
			t.Fatalf("%x: %v: %x %d", b, x, l, e)
		}
	}
	if read < 100 {
		t.Errorf("%d papers", read)
	}
}

// Lists are not changed, their spare room neither; what comes out is new, its spare room
// too.
func TestKept(t *testing.T) {
	x := wholePaper(3)
	x.Body.Load = append(make([]byte, 0, 400), "load"...)
	room := x.Body.Load[:400]
	l, _ := paper.Encode(x)
	spare := append(make([]byte, 0, 1000), l...)
	old := slices.Clone(spare[:1000])
	y, _ := paper.Decode(spare)
	z, _ := paper.Decode(spare)
	first, _ := paper.Bytes(x.Body)
	second, _ := paper.Bytes(x.Body)
	scrawl(y.Body.Load)
	scrawl(first)
	scrawl(l)
	for i := range y.Signs[:cap(y.Signs)] {
		y.Signs[:cap(y.Signs)][i].Who = -9
	}
	if !bytes.Equal(spare[:1000], old) || !same(x, wholePaper(3)) || !bytes.Equal(room[4:], make([]byte, 396)) {
		t.Error("changed")
	}
	if !same(z, wholePaper(3)) || !bytes.Equal(second, bytesOf(body())) {
		t.Error("shared")
	}
}

func scrawl(b []byte) {
	b = b[:cap(b)]
	for i := range b {
		b[i] ^= 255
	}
}

func ExampleEncode() {
	x := api.Paper{Set: 2, Body: api.Body{Time: 3, Chain: 1, Number: 4, Load: []byte("abc")}}
	b, e := paper.Encode(x)
	fmt.Println(len(b), e == api.OK)
	y, e := paper.Decode(b)
	fmt.Println(y.Set, y.Body.Number, string(y.Body.Load), e == api.OK)
	_, e = paper.Decode(b[:60])
	fmt.Println(e)
	// Output:
	// 64 true
	// 2 4 abc true
	// refused 4
}
