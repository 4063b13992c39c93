package gate_test

import (
	"fmt"
	"math"
	"math/rand"
	"reflect"
	"slices"
	"testing"

	"bascule/api"
	"bascule/gate"
)

const (
	most = 1 << 30 // MaxValue
	last = 1 << 40 // MaxTime
)

// three: the same number for each chain.
func three(n int) [api.MaxChains]int { return [api.MaxChains]int{n, n, n} }

// fits: as the promise says it, all that one transfer has to keep to beside the limits,
// by what passed in each hour of each chain.
func fits(g api.Gate, n, chain int) bool {
	hours := map[[2]int]int{}
	for _, q := range g.Past {
		hours[[2]int{q.Chain, q.At}] += q.Value
	}
	for h := range 24 {
		n += hours[[2]int{chain, g.Now - h}]
	}
	return n <= g.Limit[chain]
}

// offered: what becomes of a gate that may be and of a transfer, as the promise says it.
func offered(g api.Gate, id, n, chain int) (api.Gate, bool, api.Errno) {
	if n < 0 || n > most || chain < 0 || chain > 2 {
		return api.Gate{}, false, api.ErrRange
	}
	for _, q := range append(slices.Clone(g.Past), g.Queue...) {
		if q.Id == id {
			return api.Gate{}, false, api.ErrTwice
		}
	}
	q := api.Queued{Id: id, Value: n, Chain: chain, At: g.Now}
	if n < g.Big[chain] && fits(g, n, chain) && len(g.Past) < 40 {
		g.Past = append(slices.Clone(g.Past), q)
		return g, true, api.OK
	}
	if len(g.Queue) >= 40 {
		return api.Gate{}, false, api.ErrFull
	}
	g.Queue = append(slices.Clone(g.Queue), q)
	return g, false, api.OK
}

// ticked: what becomes of a gate that may be when hours pass, as the promise says it:
// what waits is offered anew, one by one.
func ticked(g api.Gate, hours int) (api.Gate, []int, api.Errno) {
	if hours < 1 || hours > 1000 || g.Now > last-hours {
		return api.Gate{}, nil, api.ErrRange
	}
	g.Now += hours
	old := func(q api.Queued) bool { return q.At+24 <= g.Now }
	g.Past = slices.DeleteFunc(slices.Clone(g.Past), old)
	wait, stay := g.Queue, []api.Queued{}
	var free []int
	for _, q := range wait {
		g.Queue = nil
		if old(q) {
			free = append(free, q.Id)
		} else if next, now, _ := offered(g, q.Id, q.Value, q.Chain); now {
			g, free = next, append(free, q.Id)
		} else {
			stay = append(stay, q)
		}
	}
	g.Queue = stay
	return g, free, api.OK
}

// deep copy, whose lists without elements are nil.
func deep(g api.Gate) api.Gate {
	g.Past, g.Queue = append([]api.Queued(nil), g.Past...), append([]api.Queued(nil), g.Queue...)
	return g
}

func same(a, b api.Gate) bool { return reflect.DeepEqual(deep(a), deep(b)) }

func none(g api.Gate) bool { return same(g, api.Gate{}) }

// some transfers of all chains, behind one another; the first Id is told.
func some(chance *rand.Rand, id, n, now int) []api.Queued {
	var l []api.Queued
	for i := range n {
		l = append(l, api.Queued{Id: id + i, Value: chance.Intn(60), Chain: chance.Intn(3), At: max(0, now-chance.Intn(40))})
	}
	return l
}

// whole: gates that may be.
func whole() []api.Gate {
	chance := rand.New(rand.NewSource(14))
	l := []api.Gate{
		{}, {Now: last}, {Limit: three(most), Big: three(most)}, {Now: 7, Limit: three(50), Big: three(20)},
		{Limit: three(most), Big: three(most), Now: last, Past: []api.Queued{{Id: math.MinInt, Value: most, Chain: 2, At: last}}, Queue: []api.Queued{{Id: math.MaxInt, Value: most, Chain: 2, At: last}, {}}},
		{Past: []api.Queued{{Id: 1}, {Id: 0, Value: most}}, Queue: []api.Queued{{Id: -1}}},
	}
	for _, n := range []int{0, 1, 39, 40} {
		for _, m := range []int{0, 1, 39, 40} {
			l = append(l, api.Gate{Limit: [3]int{100, 400, 2000}, Big: [3]int{60, 30, 50}, Now: 50, Past: some(chance, 0, n, 50), Queue: some(chance, 100, m, 50)})
		}
	}
	for range 300 {
		now := chance.Intn(100)
		g := api.Gate{Now: now, Past: some(chance, -20, chance.Intn(41), now), Queue: some(chance, 20, chance.Intn(41), now)}
		for i := range g.Limit {
			g.Limit[i], g.Big[i] = chance.Intn(600), chance.Intn(80)
		}
		l = append(l, g)
	}
	return l
}

// numbers that are in no limit from 0 to most, some of which are once they are cut.
func outside(most int) []int {
	return []int{-1, -2, math.MinInt, math.MinInt + 1, -1 << 32, -1<<32 + 1, most + 1, most + 2, 1<<41 + 1, 1 << 62, 1<<62 + 1, math.MaxInt}
}

// mayNot: a gate that all refuse, ahead of all else that is wrong.
func mayNot(t *testing.T, what string, g api.Gate, want api.Errno) {
	t.Helper()
	if e := gate.Check(g); e != want {
		t.Errorf("%s: Check: %d, want %d", what, e, want)
	}
	for _, id := range []int{77777, 0, 1} {
		for _, n := range []int{0, 1, -1, most + 1} {
			for _, chain := range []int{0, 2, 3, -1} {
				if r, now, e := gate.Offer(g, id, n, chain); !none(r) || now || e != want {
					t.Errorf("%s: Offer: %v %v %d, want %d", what, r, now, e, want)
				}
			}
		}
	}
	for _, n := range []int{0, 1, 24, 1000, 1001, -1} {
		if r, l, e := gate.Tick(g, n); !none(r) || len(l) != 0 || e != want {
			t.Errorf("%s: Tick: %v %v %d, want %d", what, r, l, e, want)
		}
	}
}

// P14.1
func TestWhole(t *testing.T) {
	for _, g := range whole() {
		if e := gate.Check(g); e != api.OK {
			t.Errorf("%v: %d", g, e)
		}
	}
}

// P14.1: how many there are, ahead of all else.
func TestCount(t *testing.T) {
	chance := rand.New(rand.NewSource(41))
	for _, n := range []int{41, 42, 80, 256, 257, 1 << 16} {
		l := some(chance, 0, n, 50)
		mayNot(t, fmt.Sprint("Past ", n), api.Gate{Now: 50, Past: l}, api.ErrSize)
		mayNot(t, fmt.Sprint("Queue ", n), api.Gate{Now: 50, Queue: l}, api.ErrSize)
		mayNot(t, fmt.Sprint("both ", n), api.Gate{Now: 50, Past: l, Queue: l}, api.ErrSize)
		mayNot(t, fmt.Sprint("Past, and all wrong ", n), api.Gate{Now: -1, Past: make([]api.Queued, n), Queue: []api.Queued{{Value: -1}}}, api.ErrSize)
		mayNot(t, fmt.Sprint("Queue, and all wrong ", n), api.Gate{Limit: three(-1), Past: []api.Queued{{Chain: 3}}, Queue: make([]api.Queued, n)}, api.ErrSize)
	}
	if e := gate.Check(api.Gate{Now: 50, Past: some(chance, 0, 40, 50), Queue: some(chance, 40, 40, 50)}); e != api.OK {
		t.Errorf("40 each: %d", e)
	}
}

// P14.1: the numbers of a gate itself.
func TestNumbers(t *testing.T) {
	good := api.Gate{Limit: [3]int{50, 60, 70}, Big: [3]int{20, 30, 40}, Now: 9, Past: []api.Queued{{Id: 3, Value: 4, At: 5}}, Queue: []api.Queued{{Id: 4}}}
	for _, n := range outside(last) {
		g := good
		g.Now = n
		mayNot(t, fmt.Sprint("Now ", n), g, api.ErrState)
		mayNot(t, fmt.Sprint("Now alone ", n), api.Gate{Now: n}, api.ErrState)
	}
	for i := range good.Limit {
		for _, n := range outside(most) {
			g := good
			g.Limit[i] = n
			mayNot(t, fmt.Sprint("Limit ", i, n), g, api.ErrState)
			g = good
			g.Big[i] = n
			mayNot(t, fmt.Sprint("Big ", i, n), g, api.ErrState)
		}
		for _, n := range []int{0, most} {
			g := good
			g.Limit[i], g.Big[i] = n, most-n
			if e := gate.Check(g); e != api.OK {
				t.Errorf("%v: %d", g, e)
			}
		}
	}
}

// P14.1: what is said of each transfer, in each list, at each place.
func TestTransfers(t *testing.T) {
	for _, at := range []int{0, 9, last} {
		for i := range 4 {
			for _, c := range []struct {
				what  string
				wrong []int
				right []int
				field func(q *api.Queued) *int
			}{
				{"Value", outside(most), []int{0, most}, func(q *api.Queued) *int { return &q.Value }},
				{"Chain", append(outside(2), 256, 1<<32+1), []int{0, 2}, func(q *api.Queued) *int { return &q.Chain }},
				{"At", append(outside(last), at+1), []int{0, at}, func(q *api.Queued) *int { return &q.At }},
				{"Id", []int{0, 5, 10, 15}, []int{1, -5, math.MaxInt, math.MinInt}, func(q *api.Queued) *int { return &q.Id }},
			} {
				for _, n := range c.wrong {
					l := []api.Queued{{Id: 0}, {Id: 5}, {Id: 10}, {Id: 15}}
					if *c.field(&l[i]) == n {
						continue
					}
					*c.field(&l[i]) = n
					for cut := range 5 {
						mayNot(t, fmt.Sprint(c.what, " ", i, " is ", n, ", cut at ", cut), api.Gate{Now: at, Past: l[:cut], Queue: l[cut:]}, api.ErrState)
					}
				}
				for _, n := range c.right {
					l := []api.Queued{{Id: 0}, {Id: 5}, {Id: 10}, {Id: 15}}
					*c.field(&l[i]) = n
					for cut := range 5 {
						if e := gate.Check(api.Gate{Now: at, Past: l[:cut], Queue: l[cut:]}); e != api.OK {
							t.Errorf("%s %d is %d, cut at %d: %d", c.what, i, n, cut, e)
						}
					}
				}
			}
		}
	}
}

// P14.2: for many gates, as the model tells it.
func TestOffer(t *testing.T) {
	chance := rand.New(rand.NewSource(142))
	for _, g := range whole() {
		for range 30 {
			id, n, chain := chance.Intn(100)-30, chance.Intn(90)-5, chance.Intn(5)-1
			r, now, e := gate.Offer(g, id, n, chain)
			want, wantNow, wantErr := offered(g, id, n, chain)
			if !same(r, want) || now != wantNow || e != wantErr {
				t.Errorf("%v: %d %d %d: %v %v %d, want %v %v %d", g, id, n, chain, r, now, e, want, wantNow, wantErr)
			}
			if e := gate.Check(r); e != api.OK {
				t.Errorf("%v: Check: %d", r, e)
			}
		}
	}
}

// P14.2: what passes, told by hand.
func TestPasses(t *testing.T) {
	g := api.Gate{Limit: [3]int{50, 40, most}, Big: [3]int{20, 100, most}, Now: 30, Past: []api.Queued{
		{Id: 1, Value: 10, Chain: 0, At: 30}, {Id: 2, Value: 15, Chain: 0, At: 7}, {Id: 3, Value: 17, Chain: 0, At: 6}, {Id: 4, Value: 33, Chain: 1, At: 29}, {Id: 5, Value: 19, Chain: 0, At: 0},
	}, Queue: []api.Queued{{Id: 6, Value: 19, Chain: 0, At: 30}}}
	over, shut := g, g
	over.Limit, shut.Big = [3]int{24, 32, 0}, three(0)
	for i, c := range []struct {
		g        api.Gate
		n, chain int
		want     bool
	}{
		{g, 19, 0, true}, {g, 20, 0, false}, {g, 0, 0, true}, {g, 7, 1, true}, {g, 8, 1, false}, {g, 0, 1, true},
		{g, most - 1, 2, true}, {g, most, 2, false}, {over, 0, 0, false}, {over, 0, 1, false}, {over, 0, 2, true}, {over, 1, 2, false},
		{shut, 0, 0, false}, {shut, 0, 1, false}, {shut, 0, 2, false}, {shut, most, 2, false},
	} {
		r, now, e := gate.Offer(c.g, 9, c.n, c.chain)
		want := deep(c.g)
		q := api.Queued{Id: 9, Value: c.n, Chain: c.chain, At: 30}
		if c.want {
			want.Past = append(want.Past, q)
		} else {
			want.Queue = append(want.Queue, q)
		}
		if !same(r, want) || now != c.want || e != api.OK {
			t.Errorf("%d: %v %v %d, want %v", i, r, now, e, want)
		}
	}
}

// P14.2: the edge of the limit and the edge of the day, hour by hour.
func TestDay(t *testing.T) {
	for at := range 60 {
		g := api.Gate{Limit: [3]int{30, 30, 30}, Big: [3]int{31, 31, 31}, Now: 59, Past: []api.Queued{{Id: 1, Value: 30, Chain: 1, At: at}}}
		for n, want := range []bool{true, at <= 35} {
			if _, now, e := gate.Offer(g, 2, n, 1); now != want || e != api.OK {
				t.Errorf("At %d, of %d: %v %d", at, n, now, e)
			}
		}
	}
}

// many: so many transfers with nothing in them but their Id and when they came.
func many(n, id, at int) []api.Queued {
	var l []api.Queued
	for i := range n {
		l = append(l, api.Queued{Id: id + i, At: at})
	}
	return l
}

// P14.2: what it refuses, in its order, and where there is room.
func TestOfferOrder(t *testing.T) {
	base := api.Gate{Limit: three(50), Big: three(20), Now: 90}
	past, queue, both := base, base, base
	past.Past, queue.Queue = many(40, 0, 1), many(40, 100, 90)
	both.Past, both.Queue = past.Past, queue.Queue
	for _, c := range []struct {
		what         string
		g            api.Gate
		id, n, chain int
		now          bool
		want         api.Errno
	}{
		{"Past is full", past, 50, 1, 0, false, api.OK},
		{"Past is full, and it is too big", past, 50, 20, 0, false, api.OK},
		{"the Queue is full", queue, 50, 19, 0, true, api.OK},
		{"the Queue is full, and it is too big", queue, 50, 20, 0, false, api.ErrFull},
		{"the Queue is full, and it is above the limit", queue, 50, 51, 0, false, api.ErrFull},
		{"both are full", both, 50, 1, 0, false, api.ErrFull},
		{"both are full, and it is Past", both, 39, 1, 0, false, api.ErrTwice},
		{"both are full, and it is in the Queue", both, 100, 1, 0, false, api.ErrTwice},
		{"both are full, and it is in the Queue, and of no chain", both, 139, 1, 3, false, api.ErrRange},
		{"Past", past, 0, 1, 0, false, api.ErrTwice},
		{"in the Queue", queue, 139, 1, 2, false, api.ErrTwice},
		{"Past, of no chain", past, 0, 1, -1, false, api.ErrRange},
		{"Past, of no value", past, 0, -1, 0, false, api.ErrRange},
		{"in the Queue, of too much", queue, 139, most + 1, 1, false, api.ErrRange},
		{"of most", base, 1, most, 1, false, api.OK},
		{"of an Id below 0", base, math.MinInt, 0, 0, true, api.OK},
	} {
		r, now, e := gate.Offer(c.g, c.id, c.n, c.chain)
		if now != c.now || e != c.want || none(r) != (e != api.OK) {
			t.Errorf("%s: %v %v %d, want %v %d", c.what, r, now, e, c.now, c.want)
		}
	}
	for _, n := range outside(most) {
		if r, now, e := gate.Offer(base, 1, n, 0); !none(r) || now || e != api.ErrRange {
			t.Errorf("of %d: %v %v %d", n, r, now, e)
		}
	}
	for _, n := range append(outside(2), 4, 255, 256, 1<<32, 1<<32+2) {
		if r, now, e := gate.Offer(base, 1, 1, n); !none(r) || now || e != api.ErrRange {
			t.Errorf("from %d: %v %v %d", n, r, now, e)
		}
	}
}

// P14.3: for many gates, as the model tells it.
func TestTick(t *testing.T) {
	for _, g := range whole() {
		for n := -1; n < 45; n++ {
			r, l, e := gate.Tick(g, n)
			want, wantList, wantErr := ticked(g, n)
			if !same(r, want) || !slices.Equal(l, wantList) || e != wantErr {
				t.Errorf("%v: %d: %v %v %d, want %v %v %d", g, n, r, l, e, want, wantList, wantErr)
			}
			if e := gate.Check(r); e != api.OK {
				t.Errorf("%v: Check: %d", r, e)
			}
		}
	}
}

// P14.3: what is let go, told by hand.
func TestTickTold(t *testing.T) {
	g := api.Gate{Limit: [3]int{50, 40, 0}, Big: [3]int{20, 100, 5}, Now: 30, Past: []api.Queued{
		{Id: 1, Value: 45, Chain: 0, At: 8}, {Id: 2, Value: 1, Chain: 0, At: 30}, {Id: 3, Value: 40, Chain: 1, At: 10},
	}, Queue: []api.Queued{
		{Id: 4, Value: 10, Chain: 0, At: 20}, {Id: 5, Value: 20, Chain: 0, At: 9}, {Id: 6, Value: 3, Chain: 0, At: 25}, {Id: 7, Value: 40, Chain: 1, At: 12},
		{Id: 8, Value: 1, Chain: 1, At: 30}, {Id: 9, Value: 19, Chain: 0, At: 30}, {Id: 10, Value: 19, Chain: 0, At: 30}, {Id: 11, Chain: 2, At: 8},
	}}
	for _, c := range []struct {
		hours             int
		free, past, queue []int
	}{
		// At 31, 45 and 1 of chain 0 are within the day: 3 more pass.
		{1, []int{6, 11}, []int{1, 2, 3, 6, 11}, []int{4, 5, 7, 8, 9, 10}},
		// At 32, 45 of chain 0 are a day ago, and so is what waits with Id 11.
		{2, []int{4, 6, 9, 11}, []int{2, 3, 4, 6, 9}, []int{5, 7, 8, 10}},
		// At 33, what waits with Id 5 is so too; big as it is, it does not count.
		{3, []int{4, 5, 6, 9, 11}, []int{2, 3, 4, 6, 9}, []int{7, 8, 10}},
		// At 34, chain 1 is free again: Id 7 takes all of it.
		{4, []int{4, 5, 6, 7, 9, 11}, []int{2, 4, 6, 7, 9}, []int{8, 10}},
		// At 36, Id 7 came a day ago, and leaves the limit to Id 8.
		{6, []int{4, 5, 6, 7, 8, 9, 11}, []int{2, 4, 6, 8, 9}, []int{10}},
		// At 44, Id 4 came a day ago: both of 19 pass.
		{14, []int{4, 5, 6, 7, 8, 9, 10, 11}, []int{2, 6, 8, 9, 10}, nil},
		{24, []int{4, 5, 6, 7, 8, 9, 10, 11}, []int{6}, nil},
		{1000, []int{4, 5, 6, 7, 8, 9, 10, 11}, nil, nil},
	} {
		if c.hours == 24 {
			// At 54 what came at 30 is let go, and what came at 31 is looked at.
			g.Queue[2].At = 31
			g.Now = 31
			c.hours = 23
		}
		r, l, e := gate.Tick(g, c.hours)
		if !slices.Equal(l, c.free) || e != api.OK || !slices.Equal(ids(r.Past), c.past) || !slices.Equal(ids(r.Queue), c.queue) {
			t.Errorf("%d: %v %v %d, want %v", c.hours, r, l, e, c)
		}
		if r.Now != g.Now+c.hours || r.Limit != g.Limit || r.Big != g.Big {
			t.Errorf("%d: %v", c.hours, r)
		}
		for _, q := range r.Past {
			if slices.Contains(c.free, q.Id) != (q.At == r.Now) {
				t.Errorf("%d: Past %v", c.hours, q)
			}
		}
		for _, q := range r.Queue {
			if !slices.Contains(g.Queue, q) {
				t.Errorf("%d: in the Queue %v", c.hours, q)
			}
		}
	}
}

func ids(l []api.Queued) []int {
	var r []int
	for _, q := range l {
		r = append(r, q.Id)
	}
	return r
}

// P14.3: no more pass than have room behind those that stay.
func TestTickRoom(t *testing.T) {
	for _, c := range []struct{ past, queue, want int }{{40, 5, 0}, {38, 5, 2}, {0, 40, 40}, {1, 40, 39}, {40, 40, 0}} {
		g := api.Gate{Limit: three(9), Big: three(9), Now: 5, Past: many(c.past, 0, 5), Queue: many(c.queue, 100, 5)}
		r, l, e := gate.Tick(g, 1)
		if len(l) != c.want || len(r.Past) != c.past+c.want || len(r.Queue) != c.queue-c.want || e != api.OK {
			t.Errorf("%v: %v %v %d", c, r, l, e)
		}
		// Those that are Past make room when their day is over.
		g.Now = 6
		for i := range g.Queue {
			g.Queue[i].At = 6
		}
		r, l, e = gate.Tick(g, 23)
		if len(l) != c.queue || len(r.Past) != c.queue || len(r.Queue) != 0 || e != api.OK {
			t.Errorf("%v: %v %v %d", c, r, l, e)
		}
	}
}

// P14.3: the hours that may pass.
func TestTickHours(t *testing.T) {
	for _, now := range []int{0, 1, 500, last - 1001, last - 1000, last - 999, last - 1, last} {
		g := api.Gate{Now: now, Queue: []api.Queued{{Id: 3}}}
		for _, n := range append(outside(1000), 0, 1, 2, 999, 1000, 1<<32+1, last, last+1) {
			want := api.OK
			if n < 1 || n > 1000 || now+n > last {
				want = api.ErrRange
			}
			r, l, e := gate.Tick(g, n)
			if e != want || none(r) != (e != api.OK) || e == api.OK && r.Now != now+n || e != api.OK && len(l) != 0 {
				t.Errorf("%d at %d: %v %v %d, want %d", n, now, r, l, e, want)
			}
		}
	}
}

// What comes of it: no more passes within a day than the limit says, nothing waits for
// longer than a day, all are let go once.
func TestNoMore(t *testing.T) {
	chance := rand.New(rand.NewSource(24))
	for range 40 {
		g := api.Gate{Limit: [3]int{100, 30, 200}, Big: [3]int{50, 40, 20}}
		gone, came := map[int]int{}, map[int]int{}
		for id := range 200 {
			var l []int
			var e api.Errno
			if chance.Intn(3) == 0 {
				g, l, e = gate.Tick(g, 1+chance.Intn(9))
			} else if h, now, e := gate.Offer(g, id, chance.Intn(60), chance.Intn(3)); e == api.OK {
				g, came[id] = h, g.Now
				if now {
					l = []int{id}
				}
			}
			if e != api.OK {
				t.Fatal(e)
			}
			for _, id := range l {
				gone[id]++
			}
			for _, q := range g.Queue {
				if gone[q.Id] != 0 || g.Now-came[q.Id] >= 24 {
					t.Fatalf("%v waits at %d", q, g.Now)
				}
			}
			if len(gone)+len(g.Queue) != len(came) {
				t.Fatalf("%d have gone, %d wait, %d came", len(gone), len(g.Queue), len(came))
			}
			for chain := range 3 {
				if !fits(g, 0, chain) {
					t.Fatalf("%v: more than the limit", g)
				}
			}
		}
		for id, n := range gone {
			if n != 1 {
				t.Fatalf("%d has gone %d times", id, n)
			}
		}
	}
}

// roomy: a list that has spare room with something in it.
func roomy(l []api.Queued) []api.Queued {
	r := append(make([]api.Queued, 0, 60), l...)
	for i := len(l); i < 60; i++ {
		r[:60][i] = api.Queued{Id: -1000 - i, Value: i, Chain: 1, At: -i}
	}
	return r
}

// all of a gate, spare room too.
func all(g api.Gate) api.Gate {
	return deep(api.Gate{Past: g.Past[:cap(g.Past)], Queue: g.Queue[:cap(g.Queue)]})
}

func scrawl(l []api.Queued) {
	for i := range l[:cap(l)] {
		l[:cap(l)][i] = api.Queued{Id: 5555, Value: -5, Chain: 55, At: 5}
	}
}

func scrawlIds(l []int) {
	for i := range l[:cap(l)] {
		l[:cap(l)][i] = 5555
	}
}

// answers of a gate, for transfers and hours of which some are refused.
func answers(g api.Gate) ([]api.Gate, [][]int) {
	var l []api.Gate
	var free [][]int
	for _, n := range []int{0, 10, 70} {
		r, _, _ := gate.Offer(g, 70000, n, n%3)
		l = append(l, r)
	}
	for _, n := range []int{1, 10, 24, 100} {
		r, ids, _ := gate.Tick(g, n)
		l, free = append(l, r), append(free, ids)
	}
	return l, free
}

func deepAll(l []api.Gate, free [][]int) []any {
	var r []any
	for _, g := range l {
		r = append(r, deep(g))
	}
	for _, x := range free {
		r = append(r, slices.Clone(x))
	}
	return r
}

// Lists are not changed, their spare room neither, and not kept.
func TestKept(t *testing.T) {
	for _, g := range whole() {
		g.Past, g.Queue = roomy(g.Past), roomy(g.Queue)
		old := all(g)
		gates, free := answers(g)
		was := deepAll(gates, free)
		gate.Check(g)
		if !reflect.DeepEqual(all(g), old) {
			t.Errorf("%v: changed", old)
		}
		scrawl(g.Past)
		scrawl(g.Queue)
		if now := deepAll(gates, free); !reflect.DeepEqual(now, was) {
			t.Errorf("kept: %v, was %v", now, was)
		}
	}
}

// What comes out is shared with nothing that was handed in and with no other answer,
// spare room too; neither are two lists of one answer.
func TestShared(t *testing.T) {
	for _, g := range whole() {
		g.Past, g.Queue = roomy(g.Past), roomy(g.Queue)
		old := all(g)
		gates, free := answers(g)
		was := deepAll(gates, free)
		again, more := answers(g)
		for i, r := range again {
			scrawl(r.Past)
			if !reflect.DeepEqual(deep(api.Gate{Queue: r.Queue}), deep(api.Gate{Queue: gates[i].Queue})) {
				t.Errorf("%v: Past and Queue are shared", r)
			}
			scrawl(r.Queue)
		}
		for _, x := range more {
			scrawlIds(x)
		}
		if !reflect.DeepEqual(all(g), old) {
			t.Errorf("%v: shared with what was handed in", old)
		}
		if now := deepAll(gates, free); !reflect.DeepEqual(now, was) {
			t.Errorf("shared with another answer: %v, was %v", now, was)
		}
	}
	// Lists that are the same one when they are handed in are so no more.
	l := roomy(many(6, 0, 1))
	g := api.Gate{Now: 3, Limit: three(5), Big: three(5), Past: l[:3], Queue: l[3:]}
	gates, _ := answers(g)
	for _, r := range gates {
		queue := slices.Clone(r.Queue)
		scrawl(r.Past)
		if !slices.Equal(r.Queue, queue) {
			t.Errorf("%v: Past and Queue are shared", r)
		}
	}
}

func Example() {
	g := api.Gate{Limit: [api.MaxChains]int{50}, Big: [api.MaxChains]int{20}}
	for id, n := range []int{19, 19, 13, 20} {
		var now bool
		g, now, _ = gate.Offer(g, id, n, 0)
		fmt.Println(id, n, now)
	}
	g, l, e := gate.Tick(g, 23)
	fmt.Println(l, len(g.Queue), e)
	g, l, e = gate.Tick(g, 1)
	fmt.Println(l, len(g.Queue), e)
	// Output:
	// 0 19 true
	// 1 19 true
	// 2 13 false
	// 3 20 false
	// [] 2 refused 0
	// [2 3] 0 refused 0
}
