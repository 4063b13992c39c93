package seen_test

import (
	"fmt"
	"math"
	"math/big"
	"math/rand"
	"slices"
	"testing"

	"bascule/api"
	"bascule/seen"
)

const (
	full  = ^uint64(0)
	count = 256 // MaxSeen
)

// sheet: what is marked of all numbers, one by one.
type sheet [count]bool

// open a page, by a number of the library.
func open(p api.Page) sheet {
	all := new(big.Int)
	for i := len(p) - 1; i >= 0; i-- {
		all.Lsh(all, 64).Or(all, new(big.Int).SetUint64(p[i]))
	}
	var s sheet
	for n := range s {
		s[n] = all.Bit(n) == 1
	}
	return s
}

// close a sheet to a page.
func (s sheet) close() api.Page {
	all := new(big.Int)
	for n, is := range s {
		if is {
			all.SetBit(all, n, 1)
		}
	}
	var p api.Page
	for i := range p {
		p[i] = new(big.Int).Rsh(all, uint(64*i)).Uint64()
	}
	return p
}

// all marked numbers of a sheet.
func (s sheet) all() []int {
	var l []int
	for n, is := range s {
		if is {
			l = append(l, n)
		}
	}
	return l
}

// of numbers a page.
func of(l ...int) api.Page {
	var s sheet
	for _, n := range l {
		s[n] = true
	}
	return s.close()
}

// pages with nothing, with all, and with much between.
func pages() []api.Page {
	l := []api.Page{
		{}, {full, full, full, full}, {full}, {0, full}, {0, 0, full}, {0, 0, 0, full}, {0, full, full}, {full, 0, 0, full},
		{1, 1, 1, 1}, {1 << 63, 1 << 63, 1 << 63, 1 << 63}, {5, 1}, {4}, {1 << 63, 1}, {1, 2, 4, 8},
		{0x5555555555555555, 0xAAAAAAAAAAAAAAAA, 0x5555555555555555, 0xAAAAAAAAAAAAAAAA},
	}
	for n := range count {
		alone, others := sheet{}, open(api.Page{full, full, full, full})
		alone[n], others[n] = true, false
		l = append(l, alone.close(), others.close())
	}
	r := rand.New(rand.NewSource(12))
	for range 200 {
		p := api.Page{r.Uint64(), r.Uint64(), r.Uint64(), r.Uint64()}
		l = append(l, p, api.Page{p[0] & p[1], p[1] & p[2], p[2] & p[3], p[3] & p[0]}, api.Page{p[0] | p[1], p[1] | p[2], p[2] | p[3], p[3] | p[0]})
	}
	return l
}

// outside: what is no number of a page.
func outside() []int {
	l := []int{math.MinInt, math.MinInt + 1, math.MaxInt, math.MaxInt - 1, -512, -320, -257, -256, -255, -193, -192, -65, -64, -63, -2, -1, 256, 257, 258, 319, 320, 321, 511, 512, 513, 1000}
	for b := 9; b < 63; b++ {
		l = append(l, 1<<b, 1<<b+5, 1<<b-1, -1<<b, -1<<b+5)
	}
	return l
}

// P12.1
func TestHas(t *testing.T) {
	for _, p := range pages() {
		for n, want := range open(p) {
			if is, e := seen.Has(p, n); is != want || e != api.OK {
				t.Errorf("%d of %x: %v %d, want %v", n, p, is, e, want)
			}
		}
	}
}

// P12.1: the lowest bit of the first part is 0, the highest one of the last part is 255.
func TestHasTold(t *testing.T) {
	for _, c := range []struct {
		p api.Page
		n int
	}{
		{api.Page{1}, 0}, {api.Page{2}, 1}, {api.Page{4}, 2}, {api.Page{256}, 8}, {api.Page{1 << 31}, 31}, {api.Page{1 << 32}, 32},
		{api.Page{1 << 63}, 63}, {api.Page{0, 1}, 64}, {api.Page{0, 8}, 67}, {api.Page{0, 1 << 63}, 127}, {api.Page{0, 0, 1}, 128},
		{api.Page{0, 0, 1 << 63}, 191}, {api.Page{0, 0, 0, 1}, 192}, {api.Page{0, 0, 0, 1 << 62}, 254}, {api.Page{0, 0, 0, 1 << 63}, 255},
	} {
		for n := range count {
			if is, e := seen.Has(c.p, n); is != (n == c.n) || e != api.OK {
				t.Errorf("%d of %x: %v %d", n, c.p, is, e)
			}
		}
		if p, e := seen.Mark(api.Page{}, c.n); p != c.p || e != api.OK {
			t.Errorf("Mark %d: %x %d, want %x", c.n, p, e, c.p)
		}
		if l := seen.All(c.p); !slices.Equal(l, []int{c.n}) {
			t.Errorf("All of %x: %v, want %d", c.p, l, c.n)
		}
	}
}

// P12.1, P12.2: what is no number of a page, whatever is marked there.
func TestOutside(t *testing.T) {
	for _, p := range pages() {
		for _, n := range outside() {
			if is, e := seen.Has(p, n); is || e != api.ErrRange {
				t.Errorf("Has %d of %x: %v %d", n, p, is, e)
			}
			if q, e := seen.Mark(p, n); q != (api.Page{}) || e != api.ErrRange {
				t.Errorf("Mark %d of %x: %x %d", n, p, q, e)
			}
		}
	}
}

// P12.2: one more number is marked, or it was and nothing comes back.
func TestMark(t *testing.T) {
	for _, p := range pages() {
		for n, is := range open(p) {
			want, wantE := open(p), api.OK
			want[n] = true
			if is {
				want, wantE = sheet{}, api.ErrTwice
			}
			if q, e := seen.Mark(p, n); q != want.close() || e != wantE {
				t.Errorf("%d of %x: %x %d, want %x %d", n, p, q, e, want.close(), wantE)
			}
		}
	}
}

// P12.2: all numbers, one behind another, and each one but once.
func TestMarkAll(t *testing.T) {
	for _, order := range [][]int{rand.New(rand.NewSource(1)).Perm(count), rand.New(rand.NewSource(2)).Perm(count)} {
		var p api.Page
		for i, n := range order {
			q, e := seen.Mark(p, n)
			if e != api.OK || q != of(order[:i+1]...) {
				t.Fatalf("%d of %x: %x %d", n, p, q, e)
			}
			p = q
			if q, e := seen.Mark(p, n); q != (api.Page{}) || e != api.ErrTwice {
				t.Fatalf("%d of %x once more: %x %d", n, p, q, e)
			}
		}
		if p != (api.Page{full, full, full, full}) {
			t.Errorf("all are marked: %x", p)
		}
	}
}

// P12.3
func TestAll(t *testing.T) {
	for _, p := range pages() {
		if l, want := seen.All(p), open(p).all(); !slices.Equal(l, want) {
			t.Errorf("%x: %v, want %v", p, l, want)
		}
	}
}

// P12.3: what is told by hand.
func TestAllTold(t *testing.T) {
	for _, c := range []struct {
		p    api.Page
		want []int
	}{
		{api.Page{}, nil},
		{api.Page{5, 1}, []int{0, 2, 64}},
		{api.Page{1 << 63, 1}, []int{63, 64}},
		{api.Page{1, 0, 0, 1 << 63}, []int{0, 255}},
		{api.Page{0xF0, 0, 3 << 62}, []int{4, 5, 6, 7, 190, 191}},
		{api.Page{1, 2, 4, 8}, []int{0, 65, 130, 195}},
		{api.Page{0, 6}, []int{65, 66}},
	} {
		if l := seen.All(c.p); !slices.Equal(l, c.want) {
			t.Errorf("%x: %v, want %v", c.p, l, c.want)
		}
	}
	if l := seen.All(api.Page{full, full, full, full}); len(l) != count || l[0] != 0 || l[count-1] != count-1 || !slices.IsSorted(l) {
		t.Errorf("a full page: %v", l)
	}
}

// P12.4
func TestBoth(t *testing.T) {
	l := pages()
	few := slices.Concat(l[:40], l[len(l)-40:])
	for _, p := range l {
		for _, q := range few {
			want := open(p)
			for n, is := range open(q) {
				want[n] = want[n] || is
			}
			if got := seen.Both(p, q); got != want.close() {
				t.Fatalf("%x and %x: %x, want %x", p, q, got, want.close())
			}
		}
		if got := seen.Both(p, p); got != p {
			t.Errorf("%x twice: %x", p, got)
		}
		if got := seen.Both(p, api.Page{}); got != p {
			t.Errorf("%x and nothing: %x", p, got)
		}
		if got := seen.Both(api.Page{}, p); got != p {
			t.Errorf("nothing and %x: %x", p, got)
		}
	}
}

// P12.4: what is told by hand.
func TestBothTold(t *testing.T) {
	for _, c := range []struct{ p, q, want api.Page }{
		{api.Page{}, api.Page{}, api.Page{}},
		{api.Page{5}, api.Page{3, 1}, api.Page{7, 1}},
		{api.Page{1, 2, 3, 4}, api.Page{8, 8, 8, 8}, api.Page{9, 10, 11, 12}},
		{api.Page{7, 0, 0, 7}, api.Page{2, 0, 0, 8}, api.Page{7, 0, 0, 15}},
		{api.Page{full}, api.Page{0, 0, 0, full}, api.Page{full, 0, 0, full}},
	} {
		if got := seen.Both(c.p, c.q); got != c.want {
			t.Errorf("%x and %x: %x, want %x", c.p, c.q, got, c.want)
		}
		if got := seen.Both(c.q, c.p); got != c.want {
			t.Errorf("%x and %x: %x, want %x", c.q, c.p, got, c.want)
		}
	}
}

// What comes out is new memory, its spare room too: whoever writes on it changes no
// other answer.
func TestShared(t *testing.T) {
	for _, p := range pages() {
		a, b := seen.All(p), seen.All(p)
		for i := range a[:cap(a)] {
			a[:cap(a)][i] = -7
		}
		if !slices.Equal(b, open(p).all()) || !slices.Equal(seen.All(p), b) {
			t.Errorf("%x: %v", p, b)
		}
	}
}

func Example() {
	var p api.Page
	for _, n := range []int{64, 2, 0, 2, 256} {
		q, e := seen.Mark(p, n)
		if e != api.OK {
			fmt.Println(n, e)
			continue
		}
		p = q
	}
	fmt.Println(p, seen.All(p))
	fmt.Println(seen.All(seen.Both(p, api.Page{2})))
	// Output:
	// 2 refused 8
	// 256 refused 6
	// [5 1 0 0] [0 2 64]
	// [0 1 2 64]
}
