package sets_test

import (
	"fmt"
	"math"
	"math/rand"
	"reflect"
	"slices"
	"testing"

	"bascule/api"
	"bascule/sets"
)

const (
	last = 1 << 40 // MaxTime
	end  = last + 24
)

// keys that are different ones, from the first one's number on.
func keys(first, n int) []api.Key {
	l := make([]api.Key, n)
	for i := range l {
		l[i][0], l[i][19] = byte((first+i)>>8), byte(first+i)
	}
	return l
}

// line of sets with these ends, and one more that has none; the sets have the same keys
// in part, which they may.
func line(ends ...int) []api.Set {
	var l []api.Set
	for i, until := range append(slices.Clone(ends), 0) {
		l = append(l, api.Set{Index: i, Keys: keys(2*i, 1+i%3), Until: until})
	}
	return l
}

// deep copy.
func deep(l []api.Set) []api.Set {
	l = slices.Clone(l)
	for i := range l {
		l[i].Keys = slices.Clone(l[i].Keys)
	}
	return l
}

// whole: sets that may be.
func whole() [][]api.Set {
	l := [][]api.Set{
		line(), line(1), line(24), line(25), line(last), line(end), line(1, 1), line(1, end), line(end, end),
		line(5, 5, 5), line(25, 26, 26, 300), line(1, 2, 3, 4, 5, 6, 7), line(25, 25, 25, 25, 25, 25, 25),
		line(end, end, end, end, end, end, end), line(1, 1, 1, 1, 1, 1, end),
		{{Keys: make([]api.Key, 1)}}, {{Keys: keys(0, 19)}},
	}
	full := line(1, 2, 3, 4, 5, 6, 7)
	for i := range full {
		full[i].Keys = keys(7, 19)
	}
	return append(l, full)
}

func refused(t *testing.T, what string, got []api.Set, e, want api.Errno) {
	t.Helper()
	if len(got) != 0 || e != want {
		t.Errorf("%s: %v %d, want %d", what, got, e, want)
	}
}

// mayNot: sets that all refuse, ahead of all else that is wrong.
func mayNot(t *testing.T, what string, l []api.Set, want api.Errno) {
	t.Helper()
	if e := sets.Check(l); e != want {
		t.Errorf("%s: Check: %d, want %d", what, e, want)
	}
	for _, k := range [][]api.Key{nil, keys(50, 3), keys(50, 20), {{3}, {3}}} {
		for _, now := range []int{math.MinInt, 0, 1, 9, last, last + 1, math.MaxInt} {
			r, e := sets.Turn(l, k, now)
			refused(t, what+": Turn", r, e, want)
		}
	}
	for _, index := range []int{math.MinInt, -1, 0, 1, len(l) - 1, len(l), math.MaxInt} {
		for _, now := range []int{math.MinInt, 0, 1, 9, last, math.MaxInt} {
			if s, e := sets.Live(l, index, now); !reflect.DeepEqual(s, api.Set{}) || e != want {
				t.Errorf("%s: Live: %v %d, want %d", what, s, e, want)
			}
		}
	}
}

// P9.1
func TestWhole(t *testing.T) {
	for _, l := range whole() {
		if e := sets.Check(l); e != api.OK {
			t.Errorf("%v: %d", l, e)
		}
	}
}

// P9.1: how many sets there are.
func TestCount(t *testing.T) {
	mayNot(t, "nil", nil, api.ErrSize)
	mayNot(t, "none", []api.Set{}, api.ErrSize)
	mayNot(t, "none of some", line(5)[:0], api.ErrSize)
	mayNot(t, "nine", line(1, 2, 3, 4, 5, 6, 7, 8), api.ErrSize)
	for _, n := range []int{9, 10, 256, 257, 1 << 16, 1<<16 + 1} {
		mayNot(t, fmt.Sprint("empty ones ", n), make([]api.Set, n), api.ErrSize)
	}
}

// P9.1: keys of one of the sets.
func TestKeys(t *testing.T) {
	for _, whole := range [][]api.Set{line(), line(9), line(25, 30, 30), line(1, 2, 3, 4, 5, 6, 7)} {
		for i := range whole {
			for _, n := range []int{0, 20, 21, 256, 257, 1 << 16} {
				l := deep(whole)
				l[i].Keys = keys(0, n)
				mayNot(t, fmt.Sprint(i, " of ", len(l), " with keys ", n), l, api.ErrSize)
				if n == 0 {
					l[i].Keys = nil
					mayNot(t, fmt.Sprint(i, " of ", len(l), " without a list"), l, api.ErrSize)
				}
			}
			for n := 2; n <= 19; n++ {
				for _, same := range [][2]int{{0, 1}, {0, n - 1}, {n - 2, n - 1}, {n / 2, n - 1}, {0, n / 2}} {
					l := deep(whole)
					l[i].Keys = keys(300, n)
					if e := sets.Check(l); e != api.OK {
						t.Errorf("different ones: %d", e)
					}
					if same[0] == same[1] {
						continue
					}
					l[i].Keys[same[1]] = l[i].Keys[same[0]]
					mayNot(t, fmt.Sprint(i, " with the same at ", same, " of ", n), l, api.ErrTwice)
				}
			}
		}
	}
}

// P9.1: keys are different ones by any of their bytes.
func TestAlmost(t *testing.T) {
	for i := range 20 {
		for bit := range 8 {
			k := keys(1000, 2)
			k[1] = k[0]
			k[1][i] ^= 1 << bit
			if e := sets.Check([]api.Set{{Keys: k}}); e != api.OK {
				t.Errorf("byte %d, bit %d: %d", i, bit, e)
			}
		}
	}
}

// wrong numbers, some of which are right once they are cut.
func wrong() []int {
	return []int{-1, -2, -24, math.MinInt, math.MinInt + 1, 1 << 41, -1 << 32, 1 << 48, 1 << 62, math.MaxInt, end + 1, end + 2}
}

// P9.1: each one's Index is its place, and its Until what it may be there.
func TestNumbers(t *testing.T) {
	for _, whole := range [][]api.Set{line(), line(9), line(25, 30, 30), line(1, 2, 3, 4, 5, 6, 7)} {
		for i := range whole {
			for _, v := range append(wrong(), i+1, i+2, i+256, i-1, i+1<<32, 8) {
				l := deep(whole)
				l[i].Index = v
				mayNot(t, fmt.Sprint(i, " of ", len(l), " of Index ", v), l, api.ErrState)
			}
			low := 0
			if i > 0 {
				low = whole[i-1].Until - 1
			}
			for _, v := range append(wrong(), low, low-1) {
				l := deep(whole)
				l[i].Until = v
				if i == len(l)-1 && v == 0 {
					continue
				}
				mayNot(t, fmt.Sprint(i, " of ", len(l), " until ", v), l, api.ErrState)
			}
		}
		// The last one has no end, and no other one has none.
		for _, v := range []int{1, 5, 24, 25, 100, last, end} {
			l := deep(whole)
			l[len(l)-1].Until = v
			mayNot(t, fmt.Sprint("last one of ", len(l), " until ", v), l, api.ErrState)
		}
		for i := range len(whole) - 1 {
			l := deep(whole)
			for j := range i + 1 {
				l[j].Until = 0
			}
			mayNot(t, fmt.Sprint("no end up to ", i), l, api.ErrState)
		}
	}
	mayNot(t, "one that ends sooner", line(5, 4), api.ErrState)
	mayNot(t, "one that ends soonest", line(end, end-1), api.ErrState)
	mayNot(t, "one that ends sooner than the one ahead, not than all", line(5, 9, 8), api.ErrState)
	mayNot(t, "all that end too late", line(end+1, end+1), api.ErrState)
}

// P9.1: set by set; of one set, keys ahead of numbers.
func TestOrder(t *testing.T) {
	many, twice := keys(0, 20), []api.Key{{1}, {2}, {1}}
	faults := []struct {
		name string
		do   func(s *api.Set)
		want api.Errno
	}{
		{"many", func(s *api.Set) { s.Keys = many }, api.ErrSize},
		{"none", func(s *api.Set) { s.Keys = nil }, api.ErrSize},
		{"many same ones", func(s *api.Set) { s.Keys = make([]api.Key, 20) }, api.ErrSize},
		{"twice", func(s *api.Set) { s.Keys = twice }, api.ErrTwice},
		{"index", func(s *api.Set) { s.Index = 7 }, api.ErrState},
		{"until", func(s *api.Set) { s.Until = -3 }, api.ErrState},
	}
	for i := range 4 {
		for j := range 4 {
			for _, f := range faults {
				for _, g := range faults {
					l := line(5, 6, 7)
					f.do(&l[i])
					if i == j && (f.want == api.ErrSize || f.want == api.ErrTwice && g.want != api.ErrSize) {
						continue // the later fault goes over the one that is told
					}
					g.do(&l[j])
					want := f.want
					if j < i || i == j && g.want < f.want {
						want = g.want
					}
					mayNot(t, fmt.Sprint(f.name, " at ", i, ", ", g.name, " at ", j), l, want)
				}
			}
		}
	}
	// A set's own faults come ahead of those that are told of the next one by it.
	l := line(90, 80, 85)
	l[1].Keys = twice
	mayNot(t, "twice, and sooner", l, api.ErrTwice)
	l[2].Keys, l[1].Keys = many, keys(0, 2)
	mayNot(t, "sooner, and many behind it", l, api.ErrState)
	// Of keys, how many there are comes first.
	mayNot(t, "20, all the same", []api.Set{{Index: 3, Keys: make([]api.Key, 20), Until: 2}}, api.ErrSize)
	mayNot(t, "2, the same", []api.Set{{Index: 3, Keys: make([]api.Key, 2), Until: 2}}, api.ErrTwice)
}

// P9.2
func TestBegin(t *testing.T) {
	for n := 1; n <= 19; n++ {
		k := keys(n, n)
		l, e := sets.Begin(k)
		if want := []api.Set{{Keys: k}}; e != api.OK || !reflect.DeepEqual(l, want) {
			t.Errorf("%d keys: %v %d, want %v", n, l, e, want)
		}
		if e := sets.Check(l); e != api.OK {
			t.Errorf("%d keys: Check: %d", n, e)
		}
		for i := range n - 1 {
			k := keys(n, n)
			k[i] = k[n-1]
			l, e := sets.Begin(k)
			refused(t, fmt.Sprint("the last one of ", n, " at ", i), l, e, api.ErrTwice)
		}
	}
	for _, k := range [][]api.Key{nil, {}, keys(0, 5)[:0], keys(0, 20), keys(0, 21), make([]api.Key, 20), keys(0, 256), keys(0, 257), make([]api.Key, 1<<16)} {
		l, e := sets.Begin(k)
		refused(t, fmt.Sprint("keys ", len(k)), l, e, api.ErrSize)
	}
	if l, e := sets.Begin(make([]api.Key, 1)); e != api.OK || len(l) != 1 || len(l[0].Keys) != 1 {
		t.Errorf("a key of noughts: %v %d", l, e)
	}
}

// P9.3: one more set; all others as they were, but for the end of the last one.
func TestTurn(t *testing.T) {
	for _, l := range whole() {
		if len(l) == api.MaxSets {
			continue
		}
		for _, n := range []int{1, 2, 7, 18, 19} {
			for _, now := range []int{1, 2, 24, 25, 300, 1 << 32, last - 1, last} {
				k := keys(n, n)
				want := append(deep(l), api.Set{Index: len(l), Keys: k})
				want[len(l)-1].Until = now + 24
				r, e := sets.Turn(l, k, now)
				if len(l) > 1 && now+24 < l[len(l)-2].Until {
					refused(t, fmt.Sprint("sooner, at ", now), r, e, api.ErrRange)
					continue
				}
				if e != api.OK || !reflect.DeepEqual(r, want) {
					t.Errorf("%v at %d: %v %d, want %v", l, now, r, e, want)
				}
				if e := sets.Check(r); e != api.OK {
					t.Errorf("%v: Check: %d", r, e)
				}
			}
		}
	}
	// The same keys may come again.
	l := line(30)
	if r, e := sets.Turn(l, l[1].Keys, 6); e != api.OK || len(r) != 3 {
		t.Errorf("the same keys: %v %d", r, e)
	}
}

// P9.3: keys that may not be, ahead of all hours.
func TestTurnKeys(t *testing.T) {
	for _, l := range [][]api.Set{line(), line(9), line(end), line(1, 2, 3, 4, 5, 6, 7)} {
		for _, now := range []int{math.MinInt, -1, 0, 1, 5, last, last + 1, math.MaxInt} {
			for _, k := range [][]api.Key{nil, {}, keys(0, 20), make([]api.Key, 20), keys(0, 1000)} {
				r, e := sets.Turn(l, k, now)
				refused(t, fmt.Sprint("keys ", len(k)), r, e, api.ErrSize)
			}
			for _, k := range [][]api.Key{make([]api.Key, 2), make([]api.Key, 19), {{1}, {2}, {1}}, append(keys(1, 18), api.Key{19: 18})} {
				r, e := sets.Turn(l, k, now)
				refused(t, fmt.Sprint(k), r, e, api.ErrTwice)
			}
		}
	}
}

// P9.3: hours, ahead of how many sets there are.
func TestTurnHours(t *testing.T) {
	for _, l := range whole() {
		for _, now := range []int{0, -1, -23, -24, -25, math.MinInt, math.MinInt + 24, math.MinInt32, -1 << 32, last + 1, last + 24, last + 25, 1 << 62, math.MaxInt, math.MaxInt - 23, math.MaxInt - 24} {
			r, e := sets.Turn(l, keys(40, 2), now)
			refused(t, fmt.Sprint("at ", now), r, e, api.ErrRange)
		}
	}
	for _, c := range []struct {
		until, now int
		want       api.Errno
	}{
		{24, 1, 0}, {25, 1, 0}, {26, 1, 6}, {26, 2, 0}, {27, 2, 6}, {1000, 975, 6}, {1000, 976, 0}, {1000, 977, 0},
		{end, last, 0}, {end, last - 1, 6}, {end - 1, last - 1, 0}, {end - 1, last - 2, 6}, {1, 1, 0}, {last, last - 24, 0}, {last, last - 25, 6},
	} {
		for _, l := range [][]api.Set{line(c.until), line(1, c.until), line(c.until, c.until, c.until), line(1, 1, 1, 1, 1, 1, c.until)} {
			want := c.want
			if want == 0 && len(l) == api.MaxSets {
				want = api.ErrFull
			}
			if r, e := sets.Turn(l, keys(9, 4), c.now); e != want || (e != 0) != (len(r) == 0) {
				t.Errorf("%d sets, the last but one until %d, at %d: %v %d, want %d", len(l), c.until, c.now, r, e, want)
			}
		}
	}
}

// P9.3: sets that are as many as may be.
func TestTurnFull(t *testing.T) {
	l, e := sets.Begin(keys(0, 3))
	for i := 1; i < 8; i++ {
		if l, e = sets.Turn(l, keys(i, i), 10*i); e != api.OK || len(l) != i+1 {
			t.Fatalf("turn %d: %v %d", i, l, e)
		}
	}
	for i, s := range l {
		until := 10*(i+1) + 24
		if i == 7 {
			until = 0
		}
		if s.Index != i || s.Until != until {
			t.Errorf("set %d: %v", i, s)
		}
	}
	for _, now := range []int{70, 71, 1000, last} {
		r, e := sets.Turn(l, keys(0, 1), now)
		refused(t, fmt.Sprint("full at ", now), r, e, api.ErrFull)
	}
	r, e := sets.Turn(l, keys(0, 1), 69)
	refused(t, "full, and sooner", r, e, api.ErrRange)
}

// P9.4
func TestLive(t *testing.T) {
	for _, l := range whole() {
		for i, s := range l {
			for _, now := range []int{math.MinInt, -1, 0, 1, 23, 24, 25, s.Until - 1, s.Until, s.Until + 1, last, end, end + 1, math.MaxInt} {
				x, e := sets.Live(l, i, now)
				late := i < len(l)-1 && now >= s.Until
				if late && (e != api.ErrLate || !reflect.DeepEqual(x, api.Set{})) {
					t.Errorf("%v at %d: %v %d, want it late", s, now, x, e)
				}
				if !late && (e != api.OK || !reflect.DeepEqual(x, s)) {
					t.Errorf("%v at %d: %v %d", s, now, x, e)
				}
			}
		}
		for _, index := range []int{-1, -8, len(l), len(l) + 1, 8, 9, 256, -256, 1 << 32, -1 << 32, math.MinInt, math.MaxInt} {
			for _, now := range []int{math.MinInt, 0, 1, last, math.MaxInt} {
				if x, e := sets.Live(l, index, now); !reflect.DeepEqual(x, api.Set{}) || e != api.ErrNone {
					t.Errorf("%d of %d: %v %d", index, len(l), x, e)
				}
			}
		}
	}
}

// P9.1: what Check says of sets with a few wrong numbers, said otherwise.
func TestRandom(t *testing.T) {
	r := rand.New(rand.NewSource(9))
	told := map[api.Errno]int{}
	for range 40000 {
		var l []api.Set
		hour := 0
		size := r.Intn(10)
		for i := range size {
			hour += r.Intn(4)
			s := api.Set{Index: i, Until: hour}
			if i == size-1 {
				s.Until = 0
			}
			for range 1 + r.Intn(3) {
				var k api.Key
				k[r.Intn(20)] = byte(r.Intn(9))
				s.Keys = append(s.Keys, k)
			}
			if r.Intn(40) == 0 {
				s.Keys = keys(0, 17+r.Intn(5))
			}
			if r.Intn(40) == 0 {
				s.Index += r.Intn(3) - 1
			}
			if r.Intn(40) == 0 {
				s.Until += r.Intn(3) - 1
			}
			l = append(l, s)
		}
		want := said(l)
		told[want]++
		if e := sets.Check(l); e != want {
			t.Fatalf("%v: %d, want %d", l, e, want)
		}
	}
	for _, e := range []api.Errno{api.OK, api.ErrSize, api.ErrTwice, api.ErrState} {
		if told[e] < 1000 {
			t.Errorf("told %d: %d times", e, told[e])
		}
	}
}

// said of sets, by maps and sums.
func said(l []api.Set) api.Errno {
	if len(l) == 0 || len(l) > 8 {
		return api.ErrSize
	}
	for i, s := range l {
		different := map[api.Key]bool{}
		for _, k := range s.Keys {
			different[k] = true
		}
		switch {
		case len(s.Keys) == 0 || len(s.Keys) > 19:
			return api.ErrSize
		case len(different) < len(s.Keys):
			return api.ErrTwice
		case s.Index != i:
			return api.ErrState
		case i+1 == len(l) && s.Until != 0:
			return api.ErrState
		case i+1 < len(l) && (s.Until <= 0 || s.Until-24 > last):
			return api.ErrState
		case i+1 < len(l) && i > 0 && l[i-1].Until > s.Until:
			return api.ErrState
		}
	}
	return api.OK
}

// roomy: sets whose lists, their own one too, have spare room with something in it.
func roomy(l []api.Set) []api.Set {
	r := append(make([]api.Set, 0, 20), l...)
	for i := range r[:20] {
		k := append(make([]api.Key, 0, 25), r[:20][i].Keys...)
		for j := range k[:25][len(k):] {
			k[:25][len(k)+j] = api.Key{byte(i), byte(j), 77}
		}
		r[:20][i].Keys = k
	}
	for i := len(l); i < 20; i++ {
		r[:20][i].Index = -i
		r[:20][i].Until = 5 * i
	}
	return r
}

// all of sets, spare room too.
func all(l []api.Set) []api.Set {
	l = slices.Clone(l[:cap(l)])
	for i := range l {
		l[i].Keys = slices.Clone(l[i].Keys[:cap(l[i].Keys)])
	}
	return l
}

func scrawlKeys(l []api.Key) {
	for i := range l[:cap(l)] {
		l[:cap(l)][i] = api.Key{9, 9, byte(i)}
	}
}

// Lists are not changed, their spare room neither, and not kept.
func TestKept(t *testing.T) {
	for _, whole := range whole() {
		l, k := roomy(whole), append(make([]api.Key, 0, 30), keys(60, 3)...)
		old, oldKeys := all(l), slices.Clone(k[:30])
		turned, _ := sets.Turn(l, k, last)
		begun, _ := sets.Begin(k)
		lives := []api.Set{}
		for i := range l {
			x, _ := sets.Live(l, i, 0)
			lives = append(lives, x)
		}
		was := []any{deep(turned), deep(begun), deep(lives)}
		sets.Check(l)
		if !reflect.DeepEqual(all(l), old) || !slices.Equal(k[:30], oldKeys) {
			t.Errorf("%d sets: changed", len(l))
		}
		for i := range l[:20] {
			scrawlKeys(l[:20][i].Keys)
			l[:20][i].Keys, l[:20][i].Index, l[:20][i].Until = nil, 99, 99
		}
		scrawlKeys(k)
		if now := []any{turned, begun, lives}; !reflect.DeepEqual(now, was) {
			t.Errorf("kept: %v, was %v", now, was)
		}
	}
}

// What comes out is shared with nothing; no two lists of one answer share any memory,
// spare room too.
func TestShared(t *testing.T) {
	for _, whole := range whole() {
		l, k := roomy(whole), append(make([]api.Key, 0, 30), keys(60, 3)...)
		old, oldKeys := all(l), slices.Clone(k[:30])
		for i := range api.MaxSets + 2 {
			turned, e := sets.Turn(l, k, last)
			if e != api.OK && e != api.ErrFull {
				t.Fatal(e)
			}
			begun, _ := sets.Begin(k)
			x, _ := sets.Live(l, i, 0)
			for _, r := range [][]api.Set{turned, begun, {x}} {
				apart(t, r)
				for j := range r[:cap(r)] {
					scrawlKeys(r[:cap(r)][j].Keys)
					r[:cap(r)][j] = api.Set{Index: 55}
				}
			}
			if !reflect.DeepEqual(all(l), old) || !slices.Equal(k[:30], oldKeys) {
				t.Fatalf("%d sets: shared with what was handed in", len(l))
			}
		}
	}
	// Sets that share their keys do so no more.
	k := keys(0, 5)
	r, _ := sets.Turn([]api.Set{{Keys: k, Until: 30}, {Index: 1, Keys: k[:2]}}, k, 9)
	apart(t, r)
}

// apart: what is written to one set's keys, and behind them, is not to be seen in any other.
func apart(t *testing.T, l []api.Set) {
	t.Helper()
	for i := range l {
		was := deep(l)
		k := slices.Clone(l[i].Keys[:cap(l[i].Keys)])
		scrawlKeys(l[i].Keys)
		for j := range l {
			if j != i && !reflect.DeepEqual(l[j], was[j]) {
				t.Errorf("sets %d and %d share their keys", i, j)
			}
		}
		copy(l[i].Keys[:cap(l[i].Keys)], k)
	}
}

func ExampleTurn() {
	l, e := sets.Begin([]api.Key{{1}})
	fmt.Println(len(l), e == api.OK)
	l, e = sets.Turn(l, []api.Key{{2}, {3}}, 5)
	fmt.Println(len(l), l[0].Until, l[1].Until, e == api.OK)
	s, e := sets.Live(l, 0, 28)
	fmt.Println(len(s.Keys), e == api.OK)
	_, e = sets.Live(l, 0, 29)
	fmt.Println(e)
	_, e = sets.Turn(l, []api.Key{{2}, {2}}, 6)
	fmt.Println(e)
	// Output:
	// 1 true
	// 2 29 0 true
	// 1 true
	// refused 15
	// refused 8
}
