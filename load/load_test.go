package load_test

import (
	"bytes"
	"encoding/binary"
	"encoding/hex"
	"fmt"
	"math"
	"math/rand"
	"reflect"
	"slices"
	"strings"
	"testing"

	"bascule/api"
	"bascule/load"
)

const full = ^uint64(0)

var highest = api.U256{full, full, full, full}

// word of bytes that go up from the first one.
func word(first byte) [32]byte {
	var w [32]byte
	for i := range w {
		w[i] = first + byte(i)
	}
	return w
}

func keys(n int) []api.Key {
	l := make([]api.Key, n)
	for i := range l {
		for j := range l[i] {
			l[i][j] = byte(i*20 + j + 1)
		}
	}
	return l
}

// Loads with another number at each place.
func transfer() api.Load {
	return api.Load{
		Kind: 1, Amount: api.U256{0x0807060504030201, 2, 3, 0xf8f7f6f5f4f3f2f1}, Fee: api.U256{0x1817161514131211, 5, 6, 7},
		Token: word(32), Home: 0xa1a2, To: word(128), ToChain: 0xb1b2,
	}
}

func pass(n int) api.Load {
	l := transfer()
	l.Kind = 3
	l.Data = bytes.Repeat([]byte{200, 0, 255}, n)[:n]
	return l
}

func meta(symbol string) api.Load {
	return api.Load{Kind: 2, Token: word(64), Home: 0xc1c2, Decimals: 77, Symbol: symbol}
}

func turn(n int) api.Load { return api.Load{Kind: 4, Index: 0xd1d2d3d4, Keys: keys(n)} }

// each kind once.
func each() []api.Load { return []api.Load{transfer(), meta("coin"), pass(3), turn(2)} }

func symbols() []string {
	return []string{
		"", "a", "coin", strings.Repeat("x", 31), strings.Repeat("y", 32), " ", "\x01", "\xff\xfe", "é€",
		strings.Repeat("\xff", 32), strings.Repeat("é", 16), "\x01\x7f\x80\xc3", strings.Repeat("\xe2\x82", 16), "0",
	}
}

// whole: loads that may be, at all bounds.
func whole() []api.Load {
	l := each()
	for _, v := range []int{0, 1, 255, 256, 65534, 65535} {
		for _, x := range []api.Load{transfer(), pass(1)} {
			x.Home = v
			l = append(l, x)
			x.Home, x.ToChain = 7, v
			l = append(l, x)
		}
		x := meta("ab")
		x.Home = v
		l = append(l, x)
	}
	for _, a := range [][2]api.U256{{}, {{1}, {}}, {{1}, {1}}, {highest, highest}, {highest, {}}, {{0, 1}, {full}}, {{0, 0, 0, 1}, {full, full, full}}} {
		x, y := transfer(), pass(2)
		x.Amount, x.Fee = a[0], a[1]
		y.Amount, y.Fee = a[0], a[1]
		l = append(l, x, y)
	}
	for n := range 101 {
		l = append(l, pass(n))
	}
	for n := range 78 {
		x := meta("ab")
		x.Decimals = n
		l = append(l, x)
	}
	for _, s := range symbols() {
		l = append(l, meta(s))
	}
	for n := range api.MaxKeys {
		l = append(l, turn(n+1))
	}
	for _, v := range []int{0, 1, 65536, 1 << 31, 4294967294, 4294967295} {
		x := turn(1)
		x.Index = v
		l = append(l, x)
	}
	return append(l, api.Load{Kind: 1}, api.Load{Kind: 2}, api.Load{Kind: 3}, api.Load{Kind: 4, Keys: make([]api.Key, 19)})
}

// encoded leans on nothing of the program, and asks not whether a load may be.
func encoded(x api.Load) []byte {
	l := []byte{byte(x.Kind)}
	wide := func(a api.U256) {
		for i := 3; i >= 0; i-- {
			l = binary.BigEndian.AppendUint64(l, a[i])
		}
	}
	two := func(n int) { l = binary.BigEndian.AppendUint16(l, uint16(n)) }
	switch x.Kind {
	case 1, 3:
		wide(x.Amount)
		l = append(l, x.Token[:]...)
		two(x.Home)
		l = append(l, x.To[:]...)
		two(x.ToChain)
		wide(x.Fee)
		l = append(l, x.Data...)
	case 2:
		l = append(l, x.Token[:]...)
		two(x.Home)
		l = append(l, byte(x.Decimals))
		l = append(l, (x.Symbol + strings.Repeat("\x00", 32))[:32]...)
	case 4:
		l = binary.BigEndian.AppendUint32(l, uint32(x.Index))
		l = append(l, byte(len(x.Keys)))
		for _, k := range x.Keys {
			l = append(l, k[:]...)
		}
	}
	return l
}

// same: whether lists without elements are nil does not count.
func same(x, y api.Load) bool {
	if !bytes.Equal(x.Data, y.Data) || !slices.Equal(x.Keys, y.Keys) {
		return false
	}
	x.Data, x.Keys = y.Data, y.Keys
	return reflect.DeepEqual(x, y)
}

// refused by all that refuse a load.
func refused(t *testing.T, what string, x api.Load, want api.Errno) {
	t.Helper()
	if e := load.Check(x); e != want {
		t.Errorf("%s: Check: %d, want %d", what, e, want)
	}
	if l, e := load.Encode(x); len(l) != 0 || e != want {
		t.Errorf("%s: Encode: %v %d, want %d", what, l, e, want)
	}
}

// notRead: bytes that are refused.
func notRead(t *testing.T, what string, b []byte, want api.Errno) {
	t.Helper()
	if x, e := load.Decode(b); !reflect.DeepEqual(x, api.Load{}) || e != want {
		t.Errorf("%s: %v %d, want %d", what, x, e, want)
	}
}

// P8.1, P8.2, P8.3: what may be is written, and read as it was.
func TestWhole(t *testing.T) {
	for _, x := range whole() {
		if e := load.Check(x); e != api.OK {
			t.Errorf("%v: Check: %d", x, e)
		}
		l, e := load.Encode(x)
		if e != api.OK || !bytes.Equal(l, encoded(x)) {
			t.Errorf("%v: Encode: %x %d, want %x", x, l, e, encoded(x))
		}
		if y, e := load.Decode(l); e != api.OK || !same(x, y) {
			t.Errorf("%v: Decode: %v %d", x, y, e)
		}
	}
}

// P8.2: the bytes of each kind, written out.
func TestEncode(t *testing.T) {
	const amount = "f8f7f6f5f4f3f2f1" + "0000000000000003" + "0000000000000002" + "0807060504030201"
	const fee = "0000000000000007" + "0000000000000006" + "0000000000000005" + "1817161514131211"
	token := "202122232425262728292a2b2c2d2e2f303132333435363738393a3b3c3d3e3f"
	to := "808182838485868788898a8b8c8d8e8f909192939495969798999a9b9c9d9e9f"
	moved := amount + token + "a1a2" + to + "b1b2" + fee
	for _, c := range []struct {
		x    api.Load
		want string
	}{
		{transfer(), "01" + moved},
		{pass(0), "03" + moved},
		{pass(4), "03" + moved + "c800ffc8"},
		{meta("coin"), "02" + "404142434445464748494a4b4c4d4e4f505152535455565758595a5b5c5d5e5f" + "c1c2" + "4d" + "636f696e" + strings.Repeat("00", 28)},
		{turn(1), "04" + "d1d2d3d4" + "01" + "0102030405060708090a0b0c0d0e0f1011121314"},
		{turn(2), "04" + "d1d2d3d4" + "02" + "0102030405060708090a0b0c0d0e0f1011121314" + "15161718191a1b1c1d1e1f202122232425262728"},
	} {
		if l, e := load.Encode(c.x); e != api.OK || hex.EncodeToString(l) != c.want {
			t.Errorf("%v: %x %d, want %s", c.x, l, e, c.want)
		}
	}
}

// P8.1: kinds that there are not, whatever else is wrong.
func TestKind(t *testing.T) {
	for _, k := range []int{0, -1, 5, 6, 255, 256, 257, 260, 1 << 32, 1<<32 + 1, -1 << 32, math.MinInt, math.MinInt + 1, math.MaxInt} {
		for _, x := range append(each(), api.Load{}, api.Load{Home: -1, Fee: highest, Symbol: "\x00"}) {
			x.Kind = k
			refused(t, fmt.Sprint("kind ", k), x, api.ErrKind)
		}
	}
	for k := range 256 {
		for n := range 8 {
			b := make([]byte, n+1)
			b[0] = byte(k)
			if k < 1 || k > 4 {
				notRead(t, fmt.Sprint("kind ", k, " of ", n), b, api.ErrKind)
			}
		}
		b := make([]byte, 1<<16)
		b[0] = byte(k)
		want := api.ErrKind
		if k >= 1 && k <= 4 {
			want = api.ErrForm
		}
		notRead(t, fmt.Sprint("kind ", k, " of many"), b, want)
	}
}

// outside: numbers that are not from 0 to most, some of which are once they are cut.
func outside(most int) []int {
	return []int{
		-1, -2, math.MinInt, math.MinInt + 1, math.MinInt32, -1 << 32, -1 << 16, -256,
		most + 1, most + 2, 2*most + 2, 1 << 32, 1<<40 + 3, 1 << 48, 1 << 62, math.MaxInt,
	}
}

// P8.1: what a kind has, outside its bounds.
func TestBounds(t *testing.T) {
	for _, v := range outside(65535) {
		for _, x := range []api.Load{transfer(), pass(0), pass(9), meta("ab")} {
			x.Home = v
			refused(t, fmt.Sprint("Home ", v), x, api.ErrForm)
		}
		for _, x := range []api.Load{transfer(), pass(0), pass(9)} {
			x.ToChain = v
			refused(t, fmt.Sprint("ToChain ", v), x, api.ErrForm)
		}
	}
	for _, v := range outside(77) {
		x := meta("ab")
		x.Decimals = v
		refused(t, fmt.Sprint("Decimals ", v), x, api.ErrForm)
	}
	for _, v := range outside(4294967295) {
		x := turn(3)
		x.Index = v
		refused(t, fmt.Sprint("Index ", v), x, api.ErrForm)
	}
	for _, n := range []int{0, 20, 21, 255, 256, 257, 512, 513} {
		refused(t, fmt.Sprint(n, " keys"), turn(n), api.ErrForm)
	}
	refused(t, "no list of keys", api.Load{Kind: 4, Index: 1}, api.ErrForm)
	for _, n := range []int{101, 102, 256, 300, 1 << 16} {
		refused(t, fmt.Sprint(n, " of Data"), pass(n), api.ErrForm)
	}
	for _, s := range []string{
		"\x00", "a\x00", "\x00a", "a\x00b", strings.Repeat("x", 31) + "\x00", strings.Repeat("x", 33),
		strings.Repeat("x", 32) + "\x00", strings.Repeat("x", 256), strings.Repeat("é", 17), strings.Repeat("\x00", 33),
	} {
		refused(t, fmt.Sprintf("Symbol %q", s), meta(s), api.ErrForm)
	}
}

// P8.1: a fee above the amount, by any part; bytes say the same.
func TestFee(t *testing.T) {
	for _, a := range [][2]api.U256{
		{{}, {1}}, {{}, highest}, {{6}, {7}}, {{full}, {0, 1}}, {{full, full, full}, {0, 0, 0, 1}},
		{{full - 1, full, full, full}, highest}, {{0, 0, 0, 1}, {1, 0, 0, 1}}, {{5, 1, 1, 1}, {4, 1, 2, 1}},
	} {
		for _, x := range []api.Load{transfer(), pass(0), pass(100)} {
			x.Amount, x.Fee = a[0], a[1]
			refused(t, fmt.Sprint("fee ", a), x, api.ErrForm)
			notRead(t, fmt.Sprint("fee ", a), encoded(x), api.ErrForm)
		}
	}
}

// field of a load: by which kinds it is had, and how it is made more than nothing.
type field struct {
	name  string
	kinds []int
	set   func(x *api.Load)
}

func fields() []field {
	return []field{
		{"Amount", []int{1, 3}, func(x *api.Load) { x.Amount = highest }},
		{"Fee", []int{1, 3}, func(x *api.Load) { x.Fee[2] = 1 }},
		{"Token", []int{1, 2, 3}, func(x *api.Load) { x.Token[31] = 1 }},
		{"Home", []int{1, 2, 3}, func(x *api.Load) { x.Home = 1 }},
		{"low Home", nil, func(x *api.Load) { x.Home = -1 }},
		{"To", []int{1, 3}, func(x *api.Load) { x.To[0] = 1 }},
		{"ToChain", []int{1, 3}, func(x *api.Load) { x.ToChain = 2 }},
		{"Decimals", []int{2}, func(x *api.Load) { x.Decimals = 1 }},
		{"low Decimals", nil, func(x *api.Load) { x.Decimals = -1 }},
		{"Symbol", []int{2}, func(x *api.Load) { x.Symbol = "a" }},
		{"Symbol of nought", nil, func(x *api.Load) { x.Symbol = "\x00" }},
		{"Data", []int{3}, func(x *api.Load) { x.Data = []byte{0} }},
		{"Index", []int{4}, func(x *api.Load) { x.Index = 1 }},
		{"Keys", []int{4}, func(x *api.Load) { x.Keys = make([]api.Key, 1) }},
	}
}

// P8.1: what a kind does not have must be nothing.
func TestFields(t *testing.T) {
	for _, f := range fields() {
		for _, x := range each() {
			f.set(&x)
			what := fmt.Sprint(f.name, " of kind ", x.Kind)
			if !slices.Contains(f.kinds, x.Kind) {
				refused(t, what, x, api.ErrForm)
				continue
			}
			if e := load.Check(x); e != api.OK {
				t.Errorf("%s: %d", what, e)
			}
		}
	}
	// Lists without elements are nothing, with spare room, too.
	for _, x := range each() {
		if len(x.Data) == 0 {
			x.Data = make([]byte, 0, 5)
		}
		if len(x.Keys) == 0 {
			x.Keys = make([]api.Key, 0, 5)
		}
		if l, e := load.Encode(x); e != api.OK || !bytes.Equal(l, encoded(x)) {
			t.Errorf("kind %d: %v %d", x.Kind, l, e)
		}
	}
}

// P8.3: bytes that end too early, anywhere, and bytes that are left.
func TestEnds(t *testing.T) {
	notRead(t, "nil", nil, api.ErrShort)
	notRead(t, "none", []byte{}, api.ErrShort)
	notRead(t, "none of some", encoded(transfer())[:0], api.ErrShort)
	for _, x := range []api.Load{transfer(), meta("coin"), pass(0), turn(1), turn(2), turn(19)} {
		l := encoded(x)
		for i := range l {
			notRead(t, fmt.Sprint("kind ", x.Kind, ", bytes ", i), l[:i:i], api.ErrShort)
			// Bytes in their spare room are none.
			notRead(t, fmt.Sprint("kind ", x.Kind, ", of bytes ", i), l[:i], api.ErrShort)
		}
		for _, n := range []int{1, 2, 19, 20, 21, 101, 300} {
			more := append(slices.Clone(l), make([]byte, n)...)
			if x.Kind == 3 && n <= 100 {
				x := x
				x.Data = make([]byte, n)
				if y, e := load.Decode(more); e != api.OK || !same(x, y) {
					t.Errorf("%d behind: %v %d", n, y, e)
				}
				continue
			}
			notRead(t, fmt.Sprint("kind ", x.Kind, ", behind ", n), more, api.ErrForm)
		}
	}
}

// P8.3: how many keys there are is said ahead of them. Too few bytes are told first.
func TestCount(t *testing.T) {
	for n := range 256 {
		for _, size := range []int{0, 1, 19, 20, 21, 20*n - 1, 20 * n, 20*n + 1, 20*n + 20, 6000} {
			if size < 0 {
				continue
			}
			b := append([]byte{4, 255, 254, 253, 252, byte(n)}, bytes.Repeat([]byte{3}, size)...)
			what := fmt.Sprint(n, " keys in ", size)
			switch {
			case size < 20*n:
				notRead(t, what, b, api.ErrShort)
			case size > 20*n || n == 0 || n > 19:
				notRead(t, what, b, api.ErrForm)
			default:
				if x, e := load.Decode(b); e != api.OK || x.Index != 0xfffefdfc || len(x.Keys) != n {
					t.Errorf("%s: %v %d", what, x, e)
				}
			}
		}
	}
}

// P8.3: what bytes may say of a token, and loads may not.
func TestMeta(t *testing.T) {
	l := encoded(meta("coin"))
	for v := range 256 {
		b := slices.Clone(l)
		b[35] = byte(v)
		x, e := load.Decode(b)
		if v > 77 {
			notRead(t, fmt.Sprint("decimals ", v), b, api.ErrForm)
		} else if e != api.OK || x.Decimals != v {
			t.Errorf("decimals %d: %v %d", v, x, e)
		}
	}
	for mask := range 1 << 8 {
		b := slices.Clone(l)
		clear(b[36:])
		symbol := ""
		for i := range 8 {
			// Places 0 to 3, and the last four.
			place := i + i/4*24
			if mask>>i&1 == 1 {
				b[36+place] = 0xc0 + byte(i)
				symbol = string(b[36 : 36+place+1])
			}
		}
		if strings.Contains(symbol, "\x00") {
			notRead(t, fmt.Sprintf("symbol %q", symbol), b, api.ErrForm)
			continue
		}
		if x, e := load.Decode(b); e != api.OK || !same(x, meta(symbol)) {
			t.Errorf("symbol %q: %v %d", symbol, x, e)
		}
	}
}

// P8.2, P8.3: of all bytes that are a load, none other has the same ones.
func TestRandom(t *testing.T) {
	r := rand.New(rand.NewSource(8))
	read := map[int]int{}
	for range 40000 {
		kind := 1 + r.Intn(4)
		b := make([]byte, []int{133, 68, 133 + r.Intn(110), 6 + 20*r.Intn(22)}[kind-1])
		r.Read(b)
		b[0] = byte(kind)
		switch kind {
		case 2:
			b[35] = byte(r.Intn(90))
			clear(b[36+r.Intn(33):])
		case 4:
			b[5] = byte((len(b) - 6) / 20)
		}
		x, e := load.Decode(b)
		if e != api.OK {
			continue
		}
		read[x.Kind]++
		if l, e := load.Encode(x); e != api.OK || !bytes.Equal(l, b) || x.Kind != kind {
			t.Fatalf("%x: %v: %x %d", b, x, l, e)
		}
	}
	for k := 1; k <= 4; k++ {
		if read[k] < 1000 {
			t.Errorf("kind %d: %d loads", k, read[k])
		}
	}
}

// Lists are not changed, their spare room neither; what comes out is new, its spare room
// too.
func TestKept(t *testing.T) {
	for _, x := range []api.Load{pass(50), turn(3)} {
		want := encoded(x)
		x.Data = append(make([]byte, 0, 200), x.Data...)
		x.Keys = append(make([]api.Key, 0, 30), x.Keys...)
		room, keyRoom := slices.Clone(x.Data[:200]), slices.Clone(x.Keys[:30])
		spare := append(make([]byte, 0, 1000), want...)
		old := slices.Clone(spare[:1000])
		first, _ := load.Encode(x)
		second, _ := load.Encode(x)
		y, _ := load.Decode(spare)
		z, _ := load.Decode(spare)
		scrawl(first)
		scrawl(y.Data)
		for i := range y.Keys[:cap(y.Keys)] {
			y.Keys[:cap(y.Keys)][i][0] ^= 255
		}
		if !bytes.Equal(spare[:1000], old) || !bytes.Equal(x.Data[:200], room) || !slices.Equal(x.Keys[:30], keyRoom) {
			t.Errorf("kind %d: changed", x.Kind)
		}
		if !bytes.Equal(second, want) || !same(z, x) {
			t.Errorf("kind %d: shared", x.Kind)
		}
	}
}

func scrawl(b []byte) {
	b = b[:cap(b)]
	for i := range b {
		b[i] ^= 255
	}
}

func ExampleEncode() {
	b, e := load.Encode(api.Load{Kind: api.Meta, Home: 1, Decimals: 10, Symbol: "coin"})
	fmt.Println(len(b), e == api.OK)
	l, e := load.Decode(b)
	fmt.Println(l.Home, l.Decimals, l.Symbol, e == api.OK)
	_, e = load.Decode(b[:60])
	fmt.Println(e)
	_, e = load.Encode(api.Load{Kind: api.Transfer, Fee: api.U256{1}})
	fmt.Println(e)
	// Output:
	// 68 true
	// 1 10 coin true
	// refused 4
	// refused 3
}
