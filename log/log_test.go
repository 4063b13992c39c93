package log_test

import (
	"bytes"
	"fmt"
	"math"
	"math/rand"
	"reflect"
	"slices"
	"testing"

	"bascule/api"
	"bascule/log"
)

const full = 9000 // MaxLog

// onDisk: a record's bytes, as the promise says it, its length below 256.
func onDisk(r []byte) []byte {
	n := 0
	for _, x := range r {
		n += int(x)
	}
	return append(append([]byte{0, byte(len(r))}, r...), byte(n%256))
}

// opened: the records of some bytes, told the other way round: a record is one if the
// bytes go on with what stands on the disk for it.
func opened(b []byte) ([][]byte, int) {
	for n := range 201 {
		if len(b) < n+3 {
			break
		}
		if r := b[2 : 2+n]; bytes.HasPrefix(b, onDisk(r)) {
			l, size := opened(b[n+3:])
			return append([][]byte{r}, l...), n + 3 + size
		}
	}
	return nil, 0
}

// same records; one without bytes may be nil or not.
func same(a, b [][]byte) bool { return slices.EqualFunc(a, b, bytes.Equal) }

func equal(a, b api.Log) bool {
	return bytes.Equal(a.Lasts, b.Lasts) && bytes.Equal(a.Since, b.Since)
}

func none(l api.Log) bool { return equal(l, api.Log{}) }

func join(l ...[]byte) []byte { return bytes.Join(l, nil) }

// some bytes, of which few are no noughts and ones, so that many of them are records.
func some(chance *rand.Rand, n int) []byte {
	b := make([]byte, n)
	for i := range b {
		b[i] = byte(chance.Intn(3))
		if chance.Intn(8) == 0 {
			b[i] = byte(chance.Intn(256))
		}
	}
	return b
}

// records of many lengths.
func records(chance *rand.Rand) [][]byte {
	var l [][]byte
	for _, n := range []int{0, 1, 2, 3, 5, 127, 128, 199, 200} {
		l = append(l, bytes.Repeat([]byte{255}, n), make([]byte, n), some(chance, n))
	}
	return l
}

// logs of all kinds: empty ones, whole ones, broken ones, great ones.
func logs() []api.Log {
	chance := rand.New(rand.NewSource(15))
	l := []api.Log{{}, {Lasts: []byte{}, Since: []byte{}}}
	for _, n := range []int{1, 2, 3, 50, 8797, 8999, 9000, 9001, 9002, 20000, 1 << 17} {
		for _, m := range []int{0, 1, 4, 200, 9000, 9001} {
			l = append(l, api.Log{Lasts: make([]byte, n), Since: some(chance, m)}, api.Log{Lasts: some(chance, m), Since: make([]byte, n)})
		}
	}
	for range 400 {
		var b []byte
		for range chance.Intn(12) {
			b = append(b, onDisk(some(chance, chance.Intn(30)))...)
		}
		b = append(b, some(chance, chance.Intn(9))...)
		cut := chance.Intn(len(b) + 1)
		l = append(l, api.Log{Lasts: b[:cut], Since: b[cut:]})
	}
	return l
}

// P15.1, P15.2: what stands on the disk, told by hand.
func TestBytes(t *testing.T) {
	for _, c := range []struct{ r, want []byte }{
		{nil, []byte{0, 0, 0}},
		{[]byte{}, []byte{0, 0, 0}},
		{[]byte{0}, []byte{0, 1, 0, 0}},
		{[]byte{7}, []byte{0, 1, 7, 7}},
		{[]byte{255}, []byte{0, 1, 255, 255}},
		{[]byte{255, 1}, []byte{0, 2, 255, 1, 0}},
		{[]byte{200, 100, 3}, []byte{0, 3, 200, 100, 3, 47}},
		{[]byte{128, 128, 128, 128, 9}, []byte{0, 5, 128, 128, 128, 128, 9, 9}},
		{bytes.Repeat([]byte{255}, 128), join([]byte{0, 128}, bytes.Repeat([]byte{255}, 128), []byte{128})},
		{bytes.Repeat([]byte{255}, 200), join([]byte{0, 200}, bytes.Repeat([]byte{255}, 200), []byte{56})},
		{make([]byte, 200), join([]byte{0, 200}, make([]byte, 201))},
	} {
		for _, lasts := range [][]byte{nil, {}, {1, 2, 3}, c.want} {
			for _, since := range [][]byte{nil, {}, {9}, c.want} {
				l, e := log.Append(api.Log{Lasts: lasts, Since: since}, c.r)
				if want := (api.Log{Lasts: lasts, Since: join(since, c.want)}); !equal(l, want) || e != api.OK {
					t.Errorf("%v to %v, %v: %v %d", c.r, lasts, since, l, e)
				}
			}
		}
		if r, n := log.Open(api.Log{Lasts: c.want}); !same(r, [][]byte{c.r}) || n != len(c.want) {
			t.Errorf("%v: %v %d", c.want, r, n)
		}
	}
}

// P15.2: to many logs, as the model tells it.
func TestAppend(t *testing.T) {
	chance := rand.New(rand.NewSource(152))
	for _, l := range logs() {
		for _, r := range append(records(chance), make([]byte, 201), make([]byte, 256), make([]byte, 1<<16), make([]byte, 1<<16+1)) {
			got, e := log.Append(l, r)
			want, wrong := api.Log{}, api.OK
			switch {
			case len(l.Lasts) > full || len(l.Since) > full:
				wrong = api.ErrState
			case len(r) > 200:
				wrong = api.ErrSize
			case len(l.Lasts)+len(l.Since)+len(r)+3 > full:
				wrong = api.ErrFull
			default:
				want = api.Log{Lasts: l.Lasts, Since: join(l.Since, onDisk(r))}
			}
			if !equal(got, want) || e != wrong {
				t.Errorf("%d and %d bytes, and %v: %v %d, want %d", len(l.Lasts), len(l.Since), r, got, e, wrong)
			}
		}
	}
}

// P15.2: what it refuses, at its edges and in its order.
func TestAppendOrder(t *testing.T) {
	for _, c := range []struct {
		lasts, since, r int
		want            api.Errno
	}{
		{0, 0, 200, api.OK},
		{0, 0, 201, api.ErrSize},
		{0, 0, 1 << 20, api.ErrSize},
		{8997, 0, 0, api.OK},
		{0, 8997, 0, api.OK},
		{4000, 4997, 0, api.OK},
		{4000, 4998, 0, api.ErrFull},
		{8998, 0, 0, api.ErrFull},
		{0, 8998, 0, api.ErrFull},
		{8797, 0, 200, api.OK},
		{8797, 1, 200, api.ErrFull},
		{8798, 0, 199, api.OK},
		{8798, 0, 200, api.ErrFull},
		{8798, 0, 201, api.ErrSize},
		{0, 8797, 200, api.OK},
		{0, 8798, 200, api.ErrFull},
		{9000, 0, 0, api.ErrFull},
		{0, 9000, 0, api.ErrFull},
		{9000, 9000, 0, api.ErrFull},
		{9000, 9000, 201, api.ErrSize},
		{9001, 0, 0, api.ErrState},
		{9001, 0, 201, api.ErrState},
		{0, 9001, 0, api.ErrState},
		{0, 9001, 201, api.ErrState},
		{9001, 9001, 201, api.ErrState},
		{1 << 20, 0, 0, api.ErrState},
		{0, 1 << 20, 0, api.ErrState},
	} {
		l, e := log.Append(api.Log{Lasts: make([]byte, c.lasts), Since: make([]byte, c.since)}, make([]byte, c.r))
		if e != c.want || none(l) != (e != api.OK) {
			t.Errorf("%v: %d", c, e)
		}
		if e == api.OK && (len(l.Lasts) != c.lasts || len(l.Since) != c.since+c.r+3) {
			t.Errorf("%v: %d and %d bytes", c, len(l.Lasts), len(l.Since))
		}
	}
}

// P15.3: of all logs, those that are too great, too.
func TestSync(t *testing.T) {
	for _, l := range logs() {
		got := log.Sync(l)
		if !bytes.Equal(got.Lasts, join(l.Lasts, l.Since)) || len(got.Since) != 0 {
			t.Errorf("%v: %v", l, got)
		}
	}
}

// P15.4: of all logs, at all numbers of bytes.
func TestCrash(t *testing.T) {
	for _, l := range logs() {
		keeps := []int{math.MinInt, math.MinInt + 1, -1 << 32, 1 - 1<<32, -256, -2, -1, 256, 1 << 16, 1 << 32, 1<<32 + 1, math.MaxInt - 1, math.MaxInt}
		for n := range min(len(l.Since), 40) + 3 {
			keeps = append(keeps, n, len(l.Since)-n, len(l.Since)+n)
		}
		for _, keep := range keeps {
			got, e := log.Crash(l, keep)
			if keep < 0 || keep > len(l.Since) {
				if !none(got) || e != api.ErrRange {
					t.Errorf("%d of %d bytes: %v %d", keep, len(l.Since), got, e)
				}
				continue
			}
			if !bytes.Equal(got.Lasts, join(l.Lasts, l.Since[:keep])) || len(got.Since) != 0 || e != api.OK {
				t.Errorf("%d of %d bytes: %v %d", keep, len(l.Since), got, e)
			}
		}
	}
}

// P15.5: of many logs, as the model tells it; where the bytes that last end is all the
// same.
func TestOpen(t *testing.T) {
	for _, l := range logs() {
		if len(l.Lasts)+len(l.Since) > 1000 {
			continue
		}
		b := join(l.Lasts, l.Since)
		want, size := opened(b)
		for cut := range len(b) + 1 {
			r, n := log.Open(api.Log{Lasts: b[:cut], Since: b[cut:]})
			if !same(r, want) || n != size {
				t.Errorf("%v: %v %d, want %v %d", b, r, n, want, size)
			}
		}
	}
}

// P15.5: what is told by hand.
func TestOpenTold(t *testing.T) {
	long := func(n int, high, low byte) []byte { return join([]byte{high, low}, make([]byte, n+1)) }
	for i, c := range []struct {
		b       []byte
		n, size int
	}{
		{nil, 0, 0},
		{[]byte{0}, 0, 0},
		{[]byte{0, 0}, 0, 0},
		{[]byte{255}, 0, 0},
		{[]byte{255, 255}, 0, 0},
		{[]byte{0, 0, 0}, 1, 3},
		{[]byte{0, 0, 1}, 0, 0},
		{[]byte{0, 0, 0, 0}, 1, 3},
		{[]byte{0, 0, 0, 0, 0}, 1, 3},
		{[]byte{0, 0, 0, 0, 0, 0}, 2, 6},
		{[]byte{0, 0, 0, 0, 1, 5, 5, 0, 0, 0}, 3, 10},
		{[]byte{0, 0, 0, 0, 1, 5, 6, 0, 0, 0}, 1, 3},
		{[]byte{0, 1, 5}, 0, 0},
		{[]byte{0, 1, 5, 5}, 1, 4},
		{[]byte{0, 1, 5, 6}, 0, 0},
		{[]byte{0, 2, 5, 5}, 0, 0},
		{[]byte{0, 2, 255, 2, 1}, 1, 5},
		{[]byte{0, 2, 255, 2, 3}, 0, 0},
		{[]byte{1, 0, 5, 5}, 0, 0},
		{[]byte{1, 1, 5, 5}, 0, 0},
		{long(200, 0, 200), 1, 203},
		{long(199, 0, 200), 0, 0},
		{long(201, 0, 200), 1, 203},
		{long(202, 0, 200), 1, 203},
		{long(203, 0, 200), 2, 206},
		{long(201, 0, 201), 0, 0},
		{long(255, 0, 255), 0, 0},
		{long(256, 1, 0), 0, 0},
		{long(300, 1, 44), 0, 0},
		{long(1<<16-1, 255, 255), 0, 0},
		{long(1<<15, 128, 0), 0, 0},
		{join([]byte{0, 1, 9, 9}, long(201, 0, 201), []byte{0, 0, 0}), 1, 4},
		{join([]byte{0, 1, 9, 9}, long(256, 1, 0), []byte{0, 0, 0}), 1, 4},
	} {
		r, n := log.Open(api.Log{Lasts: c.b})
		if len(r) != c.n || n != c.size {
			t.Errorf("%d: %v %d, want %d records of %d bytes", i, r, n, c.n, c.size)
		}
	}
}

// P15.5: a log cut anywhere, or with any of its bytes turned, tells the records ahead
// of that.
func TestOpenBroken(t *testing.T) {
	var b []byte
	var l [][]byte
	var ends []int
	for _, s := range []string{"ab", "", "c", "\xff\xff\xff", "the last one"} {
		l, b = append(l, []byte(s)), append(b, onDisk([]byte(s))...)
		ends = append(ends, len(b))
	}
	for at := range b {
		done := 0
		for done < len(ends) && ends[done] <= at {
			done++
		}
		size := 0
		if done > 0 {
			size = ends[done-1]
		}
		if r, n := log.Open(api.Log{Lasts: b[:at]}); !same(r, l[:done]) || n != size {
			t.Errorf("cut at %d: %q %d, want %q %d", at, r, n, l[:done], size)
		}
		for turn := 1; turn < 256; turn++ {
			x := slices.Clone(b)
			x[at] ^= byte(turn)
			want, size := opened(x)
			r, n := log.Open(api.Log{Lasts: x})
			if !same(r, want) || n != size || len(r) < done || !same(r[:done], l[:done]) {
				t.Errorf("byte %d turned by %d: %q %d, want %q %d", at, turn, r, n, want, size)
			}
		}
	}
	if r, n := log.Open(api.Log{Lasts: b}); !same(r, l) || n != len(b) {
		t.Errorf("%q %d", r, n)
	}
}

// P15.5: logs above all limits are opened, too.
func TestOpenGreat(t *testing.T) {
	const size = 1 << 20
	for _, c := range []api.Log{{Lasts: make([]byte, size)}, {Since: make([]byte, size)}, {Lasts: make([]byte, size-7), Since: make([]byte, 7)}} {
		if r, n := log.Open(c); len(r) != size/3 || n != size/3*3 {
			t.Errorf("%d records of %d bytes", len(r), n)
		}
	}
	b := bytes.Repeat(onDisk(bytes.Repeat([]byte{3}, 200)), 1000)
	if r, n := log.Open(api.Log{Lasts: b[:9999], Since: b[9999:]}); len(r) != 1000 || n != len(b) || !bytes.Equal(join(r...), bytes.Repeat([]byte{3}, 200_000)) {
		t.Errorf("%d records of %d bytes", len(r), n)
	}
}

// P15.6: of all logs, with and without what was written since.
func TestMend(t *testing.T) {
	for _, l := range logs() {
		got, e := log.Mend(l)
		if len(l.Since) > 0 {
			if !none(got) || e != api.ErrState {
				t.Errorf("%v: %v %d", l, got, e)
			}
			l = log.Sync(l)
			got, e = log.Mend(l)
		}
		r, n := log.Open(l)
		if !bytes.Equal(got.Lasts, l.Lasts[:n]) || len(got.Since) != 0 || e != api.OK {
			t.Errorf("%v: %v %d, want %d bytes", l, got, e, n)
		}
		if again, m := log.Open(got); !same(again, r) || m != n {
			t.Errorf("%v: opened anew: %v %d, want %v %d", l, again, m, r, n)
		}
	}
	for _, l := range []api.Log{{Since: []byte{0}}, {Since: []byte{0, 0, 0}}, {Lasts: []byte{0, 0, 0}, Since: []byte{1}}} {
		if got, e := log.Mend(l); !none(got) || e != api.ErrState {
			t.Errorf("%v: %v %d", l, got, e)
		}
	}
}

// What comes of it: whatever falls, what was synced is there again, and of what was
// written since the first records are, as far as they last whole.
func TestForGood(t *testing.T) {
	chance := rand.New(rand.NewSource(51))
	for range 200 {
		l := api.Log{}
		var all [][]byte // records, of which so many are synced
		synced := 0
		for range 60 {
			switch chance.Intn(5) {
			case 0:
				l, synced = log.Sync(l), len(all)
			case 1:
				keep := chance.Intn(len(l.Since) + 1)
				fallen, e := log.Crash(l, keep)
				if e != api.OK {
					t.Fatal(e)
				}
				if l, e = log.Mend(fallen); e != api.OK {
					t.Fatal(e)
				}
				for n := len(join(all[:synced]...)) + 3*synced + keep; len(join(all...))+3*len(all) > n; {
					all = all[:len(all)-1]
				}
				synced = len(all)
			default:
				r := some(chance, chance.Intn(120))
				next, e := log.Append(l, r)
				if e != api.OK {
					t.Fatal(e)
				}
				l, all = next, append(all, r)
			}
			if r, n := log.Open(l); !same(r, all) || n != len(l.Lasts)+len(l.Since) {
				t.Fatalf("%v %d, want %v", r, n, all)
			}
		}
	}
}

// roomy: bytes that have spare room with something in it.
func roomy(b []byte) []byte {
	r := append(make([]byte, 0, len(b)+250), b...)
	for i := range r[:cap(r)][len(b):] {
		r[:cap(r)][len(b)+i] = byte(5 + 3*i)
	}
	return r
}

func scrawl(b []byte) {
	for i := range b[:cap(b)] {
		b[:cap(b)][i] ^= byte(99 + i)
	}
}

// answers of a log and a record: all lists that come out.
func answers(l api.Log, r []byte) [][]byte {
	appended, _ := log.Append(l, r)
	synced := log.Sync(l)
	fallen, _ := log.Crash(l, len(l.Since)/2)
	whole, _ := log.Crash(l, len(l.Since))
	mended, _ := log.Mend(api.Log{Lasts: l.Lasts})
	lists := [][]byte{appended.Lasts, appended.Since, synced.Lasts, synced.Since, fallen.Lasts, fallen.Since, whole.Lasts, whole.Since, mended.Lasts, mended.Since}
	read, _ := log.Open(l)
	return append(lists, read...)
}

// deep copies of lists; those without elements are nil.
func deep(l [][]byte) [][]byte {
	var r [][]byte
	for _, b := range l {
		r = append(r, append([]byte(nil), b...))
	}
	return r
}

// small logs, so that all of their lists can be held against each other.
func small() []api.Log {
	var r []api.Log
	for _, l := range logs() {
		if len(l.Lasts)+len(l.Since) < 700 {
			r = append(r, l)
		}
	}
	return r
}

// Lists are not changed, their spare room neither, and not kept.
func TestKept(t *testing.T) {
	for _, l := range small() {
		l, r := api.Log{Lasts: roomy(l.Lasts), Since: roomy(l.Since)}, roomy([]byte{7, 8, 9})
		in := [][]byte{l.Lasts[:cap(l.Lasts)], l.Since[:cap(l.Since)], r[:cap(r)]}
		old := deep(in)
		out := answers(l, r)
		was := deep(out)
		if !reflect.DeepEqual(deep(in), old) {
			t.Errorf("%v: changed", l)
		}
		for _, b := range in {
			scrawl(b)
		}
		if !reflect.DeepEqual(deep(out), was) {
			t.Errorf("%v: kept", old)
		}
	}
}

// What comes out is shared with nothing that was handed in and with no other list that
// comes out, spare room too.
func TestShared(t *testing.T) {
	for _, l := range small() {
		l, r := api.Log{Lasts: roomy(l.Lasts), Since: roomy(l.Since)}, roomy([]byte{7, 8, 9})
		in := [][]byte{l.Lasts[:cap(l.Lasts)], l.Since[:cap(l.Since)], r[:cap(r)]}
		old := deep(in)
		out := answers(l, r)
		was := deep(out)
		for _, b := range answers(l, r) {
			scrawl(b)
		}
		if !reflect.DeepEqual(deep(in), old) {
			t.Errorf("%v: shared with what was handed in", l)
		}
		for i, b := range out {
			room := slices.Clone(b[:cap(b)])
			scrawl(b)
			for j, x := range out {
				if i != j && !bytes.Equal(x, was[j]) {
					t.Errorf("%v: lists %d and %d are shared", l, i, j)
				}
			}
			copy(b[:cap(b)], room)
		}
		read, _ := log.Open(l)
		records := deep(read)
		again, _ := log.Open(l)
		clear(again[:cap(again)])
		if !reflect.DeepEqual(deep(read), records) {
			t.Errorf("%v: the lists of records are shared", l)
		}
	}
	// Lists that are the same one when they are handed in are so no more.
	b := roomy(onDisk([]byte{1, 0, 0, 0}))
	for _, l := range []api.Log{{Lasts: b, Since: b}, {Lasts: b[:2], Since: b[2:]}, {Lasts: b[2:], Since: b[:2]}} {
		next, e := log.Append(l, b)
		was := slices.Clone(next.Since)
		scrawl(next.Lasts)
		if !bytes.Equal(next.Since, was) || !bytes.Equal(was, join(l.Since, onDisk(b))) || e != api.OK {
			t.Errorf("%v: %v %d", l, next, e)
		}
	}
}

func Example() {
	l := api.Log{}
	for _, s := range []string{"first", "second"} {
		l, _ = log.Append(l, []byte(s))
		l = log.Sync(l)
	}
	l, _ = log.Append(l, []byte("third"))
	l, _ = log.Crash(l, 4)
	r, n := log.Open(l)
	fmt.Printf("%q %d of %d\n", r, n, len(l.Lasts))
	l, e := log.Mend(l)
	fmt.Println(len(l.Lasts), e)
	_, e = log.Crash(l, 1)
	fmt.Println(e)
	// Output:
	// ["first" "second"] 17 of 21
	// 17 refused 0
	// refused 6
}
