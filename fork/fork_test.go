package fork_test

import (
	"fmt"
	"math"
	"math/rand"
	"reflect"
	"slices"
	"testing"

	"bascule/api"
	"bascule/fork"
)

// calls that are different ones, all of whose fields say something.
func calls(n int) []api.Call {
	var l []api.Call
	for i := range n {
		b := byte(i + 1)
		l = append(l, api.Call{
			Kind: i - 2, Who: [32]byte{b}, Token: [32]byte{1: b}, Home: 100 + i, Amount: api.U256{3: uint64(i)},
			Fee: api.U256{uint64(i), 7}, To: [32]byte{31: b}, ToChain: -i, Hours: math.MaxInt - i, Paper: slices.Repeat([]byte{b}, 3*i%7),
		})
	}
	return l
}

// over: which blocks stand on which, found by adding pairs until there are no more.
func over(l []api.Block) map[[2]int]bool {
	pairs := map[[2]int]bool{}
	for i := range l {
		pairs[[2]int{i, i}] = true
	}
	for count := 0; count < len(pairs); {
		count = len(pairs)
		for i, b := range l {
			for on := range l {
				if pairs[[2]int{b.Parent, on}] {
					pairs[[2]int{i, on}] = true
				}
			}
		}
	}
	return pairs
}

// lineOf the blocks on which one stands, as the pairs tell it.
func lineOf(t api.Tree, end int) []int {
	pairs, l := over(t.Blocks), []int{}
	for i := range t.Blocks {
		if pairs[[2]int{end, i}] {
			l = append(l, i)
		}
	}
	return l
}

// bestOf a tree, as the pairs tell it.
func bestOf(t api.Tree) int {
	pairs, l := over(t.Blocks), []int{}
	for i := range t.Blocks {
		if pairs[[2]int{i, t.Final}] {
			l = append(l, i)
		}
	}
	slices.SortStableFunc(l, func(i, j int) int { return t.Blocks[j].Height - t.Blocks[i].Height })
	return l[0]
}

// tree of blocks behind the first one, on these parents; the block final stands for good.
func tree(final int, parents ...int) api.Tree {
	t := api.Tree{Blocks: []api.Block{{Parent: -1}}, Final: final}
	for i, p := range parents {
		t.Blocks = append(t.Blocks, api.Block{Parent: p, Height: t.Blocks[p].Height + 1, Calls: calls((i + p) % 4)})
	}
	t.Best = bestOf(t)
	return t
}

// chain of so many blocks, one on the other.
func chain(n int) []int {
	var l []int
	for i := range n - 1 {
		l = append(l, i)
	}
	return l
}

// shapes: the parents of all trees of so many blocks.
func shapes(n int) [][]int {
	if n == 1 {
		return [][]int{nil}
	}
	var l [][]int
	for _, s := range shapes(n - 1) {
		for p := range n - 1 {
			l = append(l, append(slices.Clone(s), p))
		}
	}
	return l
}

// whole: trees that may be.
func whole() []api.Tree {
	var l []api.Tree
	for n := range 5 {
		for _, s := range shapes(n + 1) {
			for final := range n + 1 {
				l = append(l, tree(final, s...))
			}
		}
	}
	for _, final := range []int{0, 1, 20, 39} {
		l = append(l, tree(final, chain(40)...), tree(final, make([]int, 39)...))
	}
	chance := rand.New(rand.NewSource(13))
	for range 60 {
		var s []int
		for i := range chance.Intn(40) {
			s = append(s, max(0, i-chance.Intn(6)))
		}
		l = append(l, tree(chance.Intn(len(s)+1), s...))
	}
	return l
}

// deep copy.
func deep(t api.Tree) api.Tree {
	t.Blocks = slices.Clone(t.Blocks)
	for i := range t.Blocks {
		t.Blocks[i].Calls = deepCalls(t.Blocks[i].Calls)
	}
	return t
}

func deepCalls(l []api.Call) []api.Call {
	l = slices.Clone(l)
	for i := range l {
		l[i].Paper = slices.Clone(l[i].Paper)
	}
	return l
}

// plain: a tree whose lists without elements are nil.
func plain(t api.Tree) api.Tree {
	t = deep(t)
	for i := range t.Blocks {
		if len(t.Blocks[i].Calls) == 0 {
			t.Blocks[i].Calls = nil
		}
		for j := range t.Blocks[i].Calls {
			if len(t.Blocks[i].Calls[j].Paper) == 0 {
				t.Blocks[i].Calls[j].Paper = nil
			}
		}
	}
	return t
}

func same(a, b api.Tree) bool { return reflect.DeepEqual(plain(a), plain(b)) }

// none: a tree that is its zero value.
func none(t api.Tree) bool { return len(t.Blocks) == 0 && t.Best == 0 && t.Final == 0 }

// numbers that are no place in a tree of n blocks, some of which are one once they are cut.
func outside(n int) []int {
	return []int{n, n + 1, -1, -2, -40, 40, 41, 64, 256, 1 << 32, 1<<32 + 1, 1 << 62, math.MaxInt, math.MinInt, math.MinInt + 1, -1 << 32}
}

// mayNot: a tree that all refuse, ahead of all else that is wrong.
func mayNot(t *testing.T, what string, x api.Tree, want api.Errno) {
	t.Helper()
	if e := fork.Check(x); e != want {
		t.Errorf("%s: Check: %d, want %d", what, e, want)
	}
	for _, n := range []int{math.MinInt, -1, 0, 1, len(x.Blocks) - 1, len(x.Blocks), math.MaxInt} {
		for _, l := range [][]api.Call{nil, calls(6), calls(7)} {
			if r, e := fork.Grow(x, n, l); !none(r) || e != want {
				t.Errorf("%s: Grow: %v %d, want %d", what, r, e, want)
			}
		}
		if r, e := fork.Settle(x, n); !none(r) || e != want {
			t.Errorf("%s: Settle: %v %d, want %d", what, r, e, want)
		}
	}
	for _, final := range []bool{false, true} {
		if l, e := fork.Line(x, final); len(l) != 0 || e != want {
			t.Errorf("%s: Line: %v %d, want %d", what, l, e, want)
		}
	}
}

// P13.1
func TestBegin(t *testing.T) {
	if x, want := fork.Begin(), (api.Tree{Blocks: []api.Block{{Parent: -1}}}); !same(x, want) {
		t.Errorf("%v, want %v", x, want)
	}
	if e := fork.Check(fork.Begin()); e != api.OK {
		t.Errorf("Check: %d", e)
	}
}

// P13.2
func TestWhole(t *testing.T) {
	for _, x := range whole() {
		if e := fork.Check(x); e != api.OK {
			t.Errorf("%v: %d", x, e)
		}
	}
}

// P13.2: how many blocks there are.
func TestCount(t *testing.T) {
	mayNot(t, "nil", api.Tree{}, api.ErrSize)
	mayNot(t, "none", api.Tree{Blocks: []api.Block{}}, api.ErrSize)
	mayNot(t, "none of some", api.Tree{Blocks: tree(0, 0, 1).Blocks[:0]}, api.ErrSize)
	mayNot(t, "none, and a best one", api.Tree{Best: 3, Final: -2}, api.ErrSize)
	mayNot(t, "41 in a chain", tree(0, chain(41)...), api.ErrSize)
	mayNot(t, "41 on the first one", tree(0, make([]int, 40)...), api.ErrSize)
	for _, n := range []int{41, 42, 80, 256, 257, 1 << 16, 1<<16 + 1} {
		mayNot(t, fmt.Sprint("empty ones ", n), api.Tree{Blocks: make([]api.Block, n)}, api.ErrSize)
	}
	if e := fork.Check(tree(0, chain(40)...)); e != api.OK {
		t.Errorf("40 of them: %d", e)
	}
}

// some trees, of each kind one.
func some() []api.Tree {
	return []api.Tree{tree(0), tree(0, 0), tree(1, 0, 1, 0, 2, 3), tree(3, 0, 1, 2, 1, 4, 5, 6), tree(5, chain(12)...), tree(2, chain(40)...), tree(0, make([]int, 39)...)}
}

// P13.2: how many calls a block has.
func TestCalls(t *testing.T) {
	for _, x := range some() {
		for i := range x.Blocks {
			for n := range 7 {
				if i > 0 {
					y := deep(x)
					y.Blocks[i].Calls = calls(n)
					if e := fork.Check(y); e != api.OK {
						t.Errorf("block %d with calls %d: %d", i, n, e)
					}
				}
			}
			for _, n := range []int{7, 8, 12, 256, 257} {
				y := deep(x)
				y.Blocks[i].Calls = make([]api.Call, n)
				mayNot(t, fmt.Sprint("block ", i, " with calls ", n), y, api.ErrSize)
			}
		}
	}
}

// P13.2: the first block.
func TestFirst(t *testing.T) {
	for _, x := range some() {
		for n := 1; n <= 6; n++ {
			y := deep(x)
			y.Blocks[0].Calls = calls(n)
			mayNot(t, fmt.Sprint("first one with calls ", n), y, api.ErrState)
		}
		for _, p := range append(outside(len(x.Blocks)), 0, 1) {
			if p != -1 {
				y := deep(x)
				y.Blocks[0].Parent = p
				mayNot(t, fmt.Sprint("first one on ", p), y, api.ErrState)
			}
		}
		for _, h := range append(outside(len(x.Blocks)), 1, 2, 39) {
			if h != 0 {
				// All others' heights fit to it.
				y := deep(x)
				for i := range y.Blocks {
					y.Blocks[i].Height += h
				}
				mayNot(t, fmt.Sprint("first one of height ", h), y, api.ErrState)
				y = deep(x)
				y.Blocks[0].Height = h
				mayNot(t, fmt.Sprint("first one alone of height ", h), y, api.ErrState)
			}
		}
	}
}

// P13.2: any other block's Parent and Height.
func TestNumbers(t *testing.T) {
	for _, x := range some() {
		for i := 1; i < len(x.Blocks); i++ {
			for _, p := range append(outside(len(x.Blocks)), i, i+1, i+2) {
				y := deep(x)
				y.Blocks[i].Parent = p
				mayNot(t, fmt.Sprint(i, " on ", p), y, api.ErrState)
				y.Blocks[i].Height = 1
				mayNot(t, fmt.Sprint(i, " on ", p, ", of height 1"), y, api.ErrState)
				y.Blocks[i].Height = 0
				mayNot(t, fmt.Sprint(i, " on ", p, ", of height 0"), y, api.ErrState)
				// As high as the one it names would have it.
				if p >= 0 && p < len(x.Blocks) {
					y.Blocks[i].Height = x.Blocks[p].Height + 1
					mayNot(t, fmt.Sprint(i, " on ", p, ", as high as that has it"), y, api.ErrState)
				}
			}
			h := x.Blocks[i].Height
			for _, wrong := range append(outside(len(x.Blocks)), h-1, h+1, h+2, -h, h+256, h+1<<32, 0) {
				if wrong != h {
					y := deep(x)
					y.Blocks[i].Height = wrong
					mayNot(t, fmt.Sprint(i, " of height ", wrong), y, api.ErrState)
				}
			}
		}
	}
}

// P13.2: the Final block and the Best one, for all trees of up to six blocks.
func TestEnds(t *testing.T) {
	for n := range 6 {
		for _, s := range shapes(n + 1) {
			x := tree(0, s...)
			for x.Final = range n + 1 {
				right := bestOf(x)
				for x.Best = range n + 1 {
					want := api.ErrState
					if x.Best == right {
						want = api.OK
					}
					if e := fork.Check(x); e != want {
						t.Errorf("%v: %d, want %d", x, e, want)
					}
				}
			}
		}
	}
	for _, x := range some() {
		for _, wrong := range outside(len(x.Blocks)) {
			y := x
			y.Best = wrong
			if wrong != x.Best {
				mayNot(t, fmt.Sprint("best one ", wrong), y, api.ErrState)
			}
			if wrong < 0 || wrong >= len(x.Blocks) {
				y.Final = wrong
				mayNot(t, fmt.Sprint("best and final one ", wrong), y, api.ErrState)
				y.Best = x.Best
				mayNot(t, fmt.Sprint("final one ", wrong), y, api.ErrState)
			}
		}
	}
}

// P13.2: what is told by hand.
func TestEndsTold(t *testing.T) {
	for _, c := range []struct {
		final, best int
		parents     []int
	}{
		{0, 0, nil},
		{0, 1, []int{0}},
		{0, 1, []int{0, 0}},
		{1, 1, []int{0, 0}},
		{2, 2, []int{0, 0}},
		{0, 3, []int{0, 1, 2, 1, 4}},
		{1, 3, []int{0, 1, 2, 1, 4}},
		{2, 3, []int{0, 1, 2, 1, 4}},
		{4, 5, []int{0, 1, 2, 1, 4}},
		{0, 6, []int{0, 1, 2, 1, 4, 5}},
		{2, 3, []int{0, 1, 2, 1, 4, 5}},
		{2, 2, []int{0, 0, 1, 3, 4}},
		{0, 5, []int{0, 0, 1, 3, 4}},
		{3, 4, []int{0, 0, 0, 3, 3, 1, 6}},
	} {
		x := tree(0, c.parents...)
		x.Final = c.final
		for x.Best = range x.Blocks {
			want := api.ErrState
			if x.Best == c.best {
				want = api.OK
			}
			if e := fork.Check(x); e != want {
				t.Errorf("%v: final %d, best %d: %d, want %d", c.parents, x.Final, x.Best, e, want)
			}
		}
	}
}

// P13.2: block by block, and what stands in a block ahead of the ends.
func TestOrder(t *testing.T) {
	x := tree(2, 0, 1, 2, 1)
	x.Best, x.Final = 77, -5
	many := make([]api.Call, 7)
	mayNot(t, "ends", x, api.ErrState)
	y := deep(x)
	y.Blocks[4].Calls = many
	mayNot(t, "calls of the last one, and ends", y, api.ErrSize)
	y = deep(x)
	y.Blocks[2].Parent, y.Blocks[2].Calls = 3, many
	mayNot(t, "calls and parent of one", y, api.ErrSize)
	y = deep(x)
	y.Blocks[0].Height, y.Blocks[0].Calls = 3, many
	mayNot(t, "calls and height of the first one", y, api.ErrSize)
	y = deep(x)
	y.Blocks[2].Parent, y.Blocks[3].Calls = 3, many
	mayNot(t, "calls behind a parent", y, api.ErrState)
	y = deep(x)
	y.Blocks[0].Calls, y.Blocks[1].Calls = calls(1), many
	mayNot(t, "calls behind calls of the first one", y, api.ErrState)
	y = deep(x)
	y.Blocks[1].Height, y.Blocks[1].Calls, y.Blocks[2].Parent = 7, many, 9
	mayNot(t, "calls ahead of a parent", y, api.ErrSize)
	y = tree(0, chain(41)...)
	y.Blocks[0].Parent = 0
	mayNot(t, "a first one of too many", y, api.ErrSize)
}

// P13.3: on each block of many trees, as the pairs tell it.
func TestGrow(t *testing.T) {
	for i, x := range whole() {
		pairs := over(x.Blocks)
		for p := range x.Blocks {
			l := calls((i + p) % 7)
			r, e := fork.Grow(x, p, l)
			switch {
			case !pairs[[2]int{p, x.Final}]:
				if !none(r) || e != api.ErrLate {
					t.Errorf("%v on %d: %v %d", x, p, r, e)
				}
			case len(x.Blocks) == 40:
				if !none(r) || e != api.ErrFull {
					t.Errorf("%v on %d: %v %d", x, p, r, e)
				}
			default:
				want := deep(x)
				want.Blocks = append(want.Blocks, api.Block{Parent: p, Height: x.Blocks[p].Height + 1, Calls: l})
				want.Best = bestOf(want)
				if !same(r, want) || e != api.OK {
					t.Errorf("%v on %d: %v %d, want %v", x, p, r, e, want)
				}
				if e := fork.Check(r); e != api.OK {
					t.Errorf("%v on %d: %v: Check: %d", x, p, r, e)
				}
			}
		}
		for _, p := range outside(len(x.Blocks)) {
			if p < 0 || p >= len(x.Blocks) {
				for _, n := range []int{0, 6, 7} {
					if r, e := fork.Grow(x, p, calls(n)); !none(r) || e != api.ErrNone {
						t.Errorf("%v on %d: %v %d", x, p, r, e)
					}
				}
			}
		}
	}
}

// P13.3: what is told by hand.
func TestGrowTold(t *testing.T) {
	x := fork.Begin()
	for i, c := range []struct{ parent, height, best int }{
		{0, 1, 1}, {0, 1, 1}, {1, 2, 3}, {2, 2, 3}, {4, 3, 5}, {3, 3, 5}, {6, 4, 7}, {0, 1, 7}, {5, 4, 7}, {9, 5, 10},
	} {
		var e api.Errno
		x, e = fork.Grow(x, c.parent, calls(i%7))
		b := x.Blocks[len(x.Blocks)-1]
		if e != api.OK || len(x.Blocks) != i+2 || b.Parent != c.parent || b.Height != c.height || len(b.Calls) != i%7 || x.Best != c.best || x.Final != 0 {
			t.Fatalf("%d: %v %d", i, x, e)
		}
	}
}

// P13.3: what it refuses, in its order.
func TestGrowOrder(t *testing.T) {
	x := tree(2, 0, 1, 2, 1)
	full := tree(38, chain(40)...)
	for _, c := range []struct {
		what   string
		t      api.Tree
		parent int
		n      int
		want   api.Errno
	}{
		{"the Final one", x, 2, 6, api.OK},
		{"the Best one", x, 3, 0, api.OK},
		{"below the Final one", x, 1, 0, api.ErrLate},
		{"the first one", x, 0, 6, api.ErrLate},
		{"beside the Final one", x, 4, 0, api.ErrLate},
		{"beside the Final one, with many calls", x, 4, 7, api.ErrLate},
		{"none", x, 5, 0, api.ErrNone},
		{"none, with many calls", x, -1, 7, api.ErrNone},
		{"many calls", x, 3, 7, api.ErrSize},
		{"very many calls", x, 2, 256, api.ErrSize},
		{"no room", full, 39, 6, api.ErrFull},
		{"no room on the Final one", full, 38, 0, api.ErrFull},
		{"no room, and many calls", full, 39, 7, api.ErrSize},
		{"no room below the Final one", full, 37, 0, api.ErrLate},
		{"no room, and none", full, 40, 7, api.ErrNone},
		{"room for one", tree(0, chain(39)...), 38, 6, api.OK},
	} {
		r, e := fork.Grow(c.t, c.parent, make([]api.Call, c.n))
		if e != c.want || none(r) != (e != api.OK) {
			t.Errorf("%s: %v %d, want %d", c.what, r, e, c.want)
		}
	}
}

// P13.4: to each height of many trees, as the pairs tell it.
func TestSettle(t *testing.T) {
	for _, x := range whole() {
		l := lineOf(x, x.Best)
		low, high := x.Blocks[x.Final].Height, x.Blocks[x.Best].Height
		for _, h := range append(outside(len(x.Blocks)), low-1, high+1) {
			if h < low || h > high {
				if r, e := fork.Settle(x, h); !none(r) || e != api.ErrRange {
					t.Errorf("%v to %d: %v %d", x, h, r, e)
				}
			}
		}
		for h := range 41 {
			r, e := fork.Settle(x, h)
			if h < low || h > high {
				if !none(r) || e != api.ErrRange {
					t.Errorf("%v to %d: %v %d", x, h, r, e)
				}
				continue
			}
			want := deep(x)
			want.Final = l[h]
			if !same(r, want) || e != api.OK {
				t.Errorf("%v to %d: %v %d, want %v", x, h, r, e, want)
			}
			if e := fork.Check(r); e != api.OK {
				t.Errorf("%v to %d: %v: Check: %d", x, h, r, e)
			}
		}
	}
}

// P13.4: what is told by hand.
func TestSettleTold(t *testing.T) {
	x := tree(0, 0, 1, 1, 3, 2, 4) // 0 - 1 - 2 - 5, and 3 - 4 - 6 on 1
	for _, c := range []struct{ final, height, want int }{
		{0, 0, 0}, {0, 1, 1}, {0, 2, 3}, {0, 3, 4}, {0, 4, 6}, {1, 1, 1}, {1, 4, 6}, {3, 2, 3}, {3, 3, 4}, {6, 4, 6}, {2, 2, 2}, {2, 3, 5}, {5, 3, 5},
	} {
		x.Final = c.final
		x.Best = bestOf(x)
		if r, e := fork.Settle(x, c.height); e != api.OK || r.Final != c.want || r.Best != x.Best {
			t.Errorf("final %d, to %d: %v %d", c.final, c.height, r, e)
		}
	}
	for _, c := range []struct{ final, height int }{
		{0, -1}, {0, 5}, {1, 0}, {3, 1}, {6, 3}, {6, 5}, {2, 1}, {2, 4}, {5, 2}, {5, 4},
	} {
		x.Final = c.final
		x.Best = bestOf(x)
		if r, e := fork.Settle(x, c.height); !none(r) || e != api.ErrRange {
			t.Errorf("final %d, to %d: %v %d", c.final, c.height, r, e)
		}
	}
}

// P13.5: of many trees, as the pairs tell it.
func TestLine(t *testing.T) {
	for _, x := range whole() {
		for _, final := range []bool{false, true} {
			end := x.Best
			if final {
				end = x.Final
			}
			if l, e := fork.Line(x, final); !slices.Equal(l, lineOf(x, end)) || e != api.OK {
				t.Errorf("%v: %v %d, want %v", x, l, e, lineOf(x, end))
			}
		}
	}
}

// P13.5: what is told by hand.
func TestLineTold(t *testing.T) {
	for _, c := range []struct {
		t           api.Tree
		best, final []int
	}{
		{fork.Begin(), []int{0}, []int{0}},
		{tree(0, 0, 0, 2), []int{0, 2, 3}, []int{0}},
		{tree(1, 0, 0, 2), []int{0, 1}, []int{0, 1}},
		{tree(2, 0, 0, 2), []int{0, 2, 3}, []int{0, 2}},
		{tree(3, 0, 0, 2), []int{0, 2, 3}, []int{0, 2, 3}},
		{tree(4, 0, 1, 2, 1, 4, 5), []int{0, 1, 4, 5, 6}, []int{0, 1, 4}},
		{tree(2, 0, 1, 2, 1, 4, 5), []int{0, 1, 2, 3}, []int{0, 1, 2}},
	} {
		if l, e := fork.Line(c.t, false); !slices.Equal(l, c.best) || e != api.OK {
			t.Errorf("%v: %v %d, want %v", c.t, l, e, c.best)
		}
		if l, e := fork.Line(c.t, true); !slices.Equal(l, c.final) || e != api.OK {
			t.Errorf("%v: %v %d, want %v", c.t, l, e, c.final)
		}
	}
}

// What comes of it: what stands for good stands, whatever comes.
func TestForGood(t *testing.T) {
	chance := rand.New(rand.NewSource(31))
	for range 300 {
		x := fork.Begin()
		good := []int{0}
		for range 60 {
			y, e := fork.Grow(x, chance.Intn(len(x.Blocks)+2)-1, calls(chance.Intn(8)))
			if chance.Intn(4) == 0 {
				y, e = fork.Settle(x, chance.Intn(6)+len(good)-2)
			}
			if e != api.OK {
				continue
			}
			x = y
			if e := fork.Check(x); e != api.OK {
				t.Fatalf("%v: Check: %d", x, e)
			}
			best, _ := fork.Line(x, false)
			final, _ := fork.Line(x, true)
			if len(final) < len(good) || !slices.Equal(final[:len(good)], good) || len(best) < len(final) || !slices.Equal(best[:len(final)], final) {
				t.Fatalf("%v: %v and %v, for good stood %v", x, best, final, good)
			}
			good = final
		}
	}
}

// roomyCalls have spare room with something in it, their papers too.
func roomyCalls(l []api.Call) []api.Call {
	r := append(make([]api.Call, 0, 9), l...)
	for i := range r[:9] {
		p := append(make([]byte, 0, 12), r[:9][i].Paper...)
		for j := range p[:12][len(p):] {
			p[:12][len(p)+j] = byte(200 + i + j)
		}
		r[:9][i].Paper = p
	}
	for i := len(l); i < 9; i++ {
		r[:9][i].Kind = -i
	}
	return r
}

// roomy: a tree all of whose lists have spare room with something in it.
func roomy(t api.Tree) api.Tree {
	r := append(make([]api.Block, 0, 45), t.Blocks...)
	for i := range r[:45] {
		r[:45][i].Calls = roomyCalls(r[:45][i].Calls)
		if i >= len(t.Blocks) {
			r[:45][i].Parent, r[:45][i].Height = -7, 70+i
		}
	}
	t.Blocks = r
	return t
}

// all of a tree, spare room too.
func all(t api.Tree) api.Tree {
	t.Blocks = slices.Clone(t.Blocks[:cap(t.Blocks)])
	for i := range t.Blocks {
		t.Blocks[i].Calls = allCalls(t.Blocks[i].Calls)
	}
	return t
}

func allCalls(l []api.Call) []api.Call {
	l = slices.Clone(l[:cap(l)])
	for i := range l {
		l[i].Paper = slices.Clone(l[i].Paper[:cap(l[i].Paper)])
	}
	return l
}

func scrawlBytes(l []byte) {
	for i := range l[:cap(l)] {
		l[:cap(l)][i] = byte(99 + i)
	}
}

func scrawlCalls(l []api.Call) {
	for i := range l[:cap(l)] {
		scrawlBytes(l[:cap(l)][i].Paper)
		l[:cap(l)][i] = api.Call{Kind: 88, Paper: []byte{8}}
	}
}

func scrawl(t api.Tree) {
	l := t.Blocks[:cap(t.Blocks)]
	for i := range l {
		scrawlCalls(l[i].Calls)
		l[i] = api.Block{Parent: 66, Height: 66}
	}
}

func scrawlLine(l []int) {
	for i := range l[:cap(l)] {
		l[:cap(l)][i] = -66
	}
}

// answers of a tree: what grows on its Best block, what it settles to, and its lines.
func answers(t api.Tree, l []api.Call) ([]api.Tree, [][]int) {
	grown, _ := fork.Grow(t, t.Best, l)
	settled, _ := fork.Settle(t, t.Blocks[t.Best].Height)
	best, _ := fork.Line(t, false)
	final, _ := fork.Line(t, true)
	return []api.Tree{fork.Begin(), grown, settled}, [][]int{best, final}
}

func deepAll(l []api.Tree, lines [][]int) []any {
	var r []any
	for _, t := range l {
		r = append(r, plain(t))
	}
	for _, x := range lines {
		r = append(r, slices.Clone(x))
	}
	return r
}

// Lists are not changed, their spare room neither, and not kept.
func TestKept(t *testing.T) {
	for _, x := range whole() {
		x, l := roomy(x), roomyCalls(calls(5))
		old, oldCalls := all(x), allCalls(l)
		trees, lines := answers(x, l)
		was := deepAll(trees, lines)
		fork.Check(x)
		if !reflect.DeepEqual(all(x), old) || !reflect.DeepEqual(allCalls(l), oldCalls) {
			t.Errorf("%v: changed", plain(old))
		}
		scrawl(x)
		scrawlCalls(l)
		if now := deepAll(trees, lines); !reflect.DeepEqual(now, was) {
			t.Errorf("kept: %v, was %v", now, was)
		}
	}
}

// What comes out is shared with nothing that was handed in and with no other answer,
// spare room too.
func TestShared(t *testing.T) {
	for _, x := range whole() {
		x, l := roomy(x), roomyCalls(calls(5))
		old, oldCalls := all(x), allCalls(l)
		trees, lines := answers(x, l)
		was := deepAll(trees, lines)
		again, more := answers(x, l)
		for _, y := range again {
			scrawl(y)
		}
		for _, y := range more {
			scrawlLine(y)
		}
		if !reflect.DeepEqual(all(x), old) || !reflect.DeepEqual(allCalls(l), oldCalls) {
			t.Errorf("%v: shared with what was handed in", plain(old))
		}
		if now := deepAll(trees, lines); !reflect.DeepEqual(now, was) {
			t.Errorf("shared with another answer: %v, was %v", now, was)
		}
	}
}

// No two lists of one answer share any memory, spare room too.
func TestApart(t *testing.T) {
	for _, x := range whole() {
		trees, _ := answers(roomy(x), roomyCalls(calls(5)))
		for _, y := range trees {
			apart(t, y)
		}
	}
	// Lists that are the same one when they are handed in are so no more.
	l := calls(6)
	l[0].Paper = []byte("one paper")
	for i := range l {
		l[i].Paper = l[0].Paper[:i]
	}
	x := tree(0, 0, 1, 1)
	for i := range x.Blocks[1:] {
		x.Blocks[i+1].Calls = l[:6-i]
	}
	trees, _ := answers(x, l)
	for _, y := range trees {
		apart(t, y)
	}
}

// apart: what is written to one list, and behind it, is not to be seen in any other.
func apart(t *testing.T, x api.Tree) {
	t.Helper()
	for i := range x.Blocks {
		l := x.Blocks[i].Calls
		for j := range l[:cap(l)] {
			was := deep(x)
			old := slices.Clone(l[:cap(l)][j].Paper)
			scrawlBytes(l[:cap(l)][j].Paper)
			copy(l[:cap(l)][j].Paper, old)
			if !reflect.DeepEqual(deep(x), was) {
				t.Errorf("%v: paper %d of block %d is shared", x, j, i)
			}
		}
		was := deep(x)
		old := slices.Clone(l)
		scrawlCallsOnly(l)
		copy(l, old)
		if !reflect.DeepEqual(deep(x), was) {
			t.Errorf("%v: the calls of block %d are shared", x, i)
		}
	}
}

// scrawlCallsOnly leaves their papers.
func scrawlCallsOnly(l []api.Call) {
	for i := range l[:cap(l)] {
		l[:cap(l)][i] = api.Call{Kind: 77}
	}
}

func Example() {
	x := fork.Begin()
	for _, parent := range []int{0, 1, 2, 1} {
		x, _ = fork.Grow(x, parent, nil)
	}
	fmt.Println(fork.Line(x, false))
	x, _ = fork.Settle(x, 1)
	fmt.Println(fork.Line(x, true))
	_, e := fork.Grow(x, 0, nil)
	fmt.Println(e)
	x, _ = fork.Grow(x, 4, nil)
	x, _ = fork.Grow(x, 5, nil)
	fmt.Println(fork.Line(x, false))
	_, e = fork.Settle(x, 5)
	fmt.Println(e)
	// Output:
	// [0 1 2 3] refused 0
	// [0 1] refused 0
	// refused 15
	// [0 1 4 5 6] refused 0
	// refused 6
}
