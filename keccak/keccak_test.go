package keccak_test

import (
	"bytes"
	"crypto/sha3"
	"encoding/binary"
	"encoding/hex"
	"math"
	"math/bits"
	"strings"
	"testing"

	"bascule/api"
	"bascule/keccak"
)

const block = 136

// grid of lanes, by x and y, as FIPS 202 words its steps.
type grid [5][5]uint64

// model turns lanes by the words of FIPS 202, chapter 3; it has no tables.
func model(a [25]uint64) [25]uint64 {
	g := toGrid(a)
	for r := range 24 {
		g = g.theta().rho().pi().chi()
		g[0][0] ^= roundConstant(r)
	}
	return fromGrid(g)
}

func toGrid(a [25]uint64) (g grid) {
	for x := range 5 {
		for y := range 5 {
			g[x][y] = a[5*y+x]
		}
	}
	return g
}

func fromGrid(g grid) (a [25]uint64) {
	for x := range 5 {
		for y := range 5 {
			a[5*y+x] = g[x][y]
		}
	}
	return a
}

func (g grid) theta() (h grid) {
	parity := func(x int) (c uint64) {
		for _, lane := range g[x%5] {
			c ^= lane
		}
		return c
	}
	for x := range 5 {
		for y := range 5 {
			h[x][y] = g[x][y] ^ parity(x+4) ^ bits.RotateLeft64(parity(x+1), 1)
		}
	}
	return h
}

func (g grid) rho() grid {
	x, y := 1, 0
	for t := range 24 {
		g[x][y] = bits.RotateLeft64(g[x][y], (t+1)*(t+2)/2)
		x, y = y, (2*x+3*y)%5
	}
	return g
}

func (g grid) pi() (h grid) {
	for x := range 5 {
		for y := range 5 {
			h[x][y] = g[(x+3*y)%5][x]
		}
	}
	return h
}

func (g grid) chi() (h grid) {
	for x := range 5 {
		for y := range 5 {
			h[x][y] = g[x][y] ^ ^g[(x+1)%5][y]&g[(x+2)%5][y]
		}
	}
	return h
}

func roundConstant(r int) (c uint64) {
	for j := range 7 {
		c |= roundBit(j+7*r) << (1<<j - 1)
	}
	return c
}

// roundBit is algorithm 5 of FIPS 202, its R[0] the lowest bit.
func roundBit(t int) uint64 {
	r := uint64(1)
	for range t % 255 {
		r <<= 1
		if r>>8 == 1 {
			r ^= 0b1_0111_0001
		}
	}
	return r & 1
}

// soaked: the lanes behind one whole block more.
func soaked(lanes [25]uint64, whole []byte) [25]uint64 {
	for i := 0; i < len(whole); i += 8 {
		lanes[i/8] ^= binary.LittleEndian.Uint64(whole[i:])
	}
	return model(lanes)
}

// spongeOf bytes, from some lanes on.
func spongeOf(lanes [25]uint64, b []byte) api.Sponge {
	for len(b) >= block {
		lanes, b = soaked(lanes, b[:block]), b[block:]
	}
	s := api.Sponge{Lanes: lanes, N: len(b)}
	copy(s.Held[:], b)
	return s
}

// sumOf bytes, from some lanes on; the first byte of what ends them is free.
func sumOf(lanes [25]uint64, b []byte, first byte) (sum [32]byte) {
	end := append(bytes.Clone(b), first)
	end = append(end, make([]byte, (block-len(end)%block)%block)...)
	end[len(end)-1] |= 128
	lanes = spongeOf(lanes, end).Lanes
	for i := range 4 {
		binary.LittleEndian.PutUint64(sum[8*i:], lanes[i])
	}
	return sum
}

// spread: numbers without a plain order, the same ones each time.
func spread(n uint64) uint64 {
	n = (n + 1) * 0x9e3779b97f4a7c15
	n = (n ^ n>>30) * 0xbf58476d1ce4e5b9
	n = (n ^ n>>27) * 0x94d049bb133111eb
	return n ^ n>>31
}

func spreadLanes(n uint64) (a [25]uint64) {
	for i := range a {
		a[i] = spread(25*n + uint64(i))
	}
	return a
}

func oneLane(i int, lane uint64) (a [25]uint64) {
	a[i] = lane
	return a
}

// spreadBytes has no nought, so that each byte tells.
func spreadBytes(n int) []byte {
	b := make([]byte, n)
	for i := range b {
		b[i] = byte(spread(uint64(i))%255) + 1
	}
	return b
}

func sameTurn(t *testing.T, a [25]uint64) {
	t.Helper()
	if got, want := keccak.Turn(a), model(a); got != want {
		t.Fatalf("Turn(%x)\n%x, want\n%x", a, got, want)
	}
}

func mustAdd(t *testing.T, s api.Sponge, b []byte) api.Sponge {
	t.Helper()
	r, e := keccak.Add(s, b)
	if e != api.OK {
		t.Fatalf("Add to %d held bytes of %d: %v", s.N, len(b), e)
	}
	return r
}

func mustEnd(t *testing.T, s api.Sponge) [32]byte {
	t.Helper()
	h, e := keccak.End(s)
	if e != api.OK {
		t.Fatalf("End with %d held bytes: %v", s.N, e)
	}
	return h
}

// TestTurnNoughts: the known answers for lanes of noughts, turned once and twice (P4.1).
func TestTurnNoughts(t *testing.T) {
	once := [25]uint64{
		0xF1258F7940E1DDE7, 0x84D5CCF933C0478A, 0xD598261EA65AA9EE, 0xBD1547306F80494D, 0x8B284E056253D057,
		0xFF97A42D7F8E6FD4, 0x90FEE5A0A44647C4, 0x8C5BDA0CD6192E76, 0xAD30A6F71B19059C, 0x30935AB7D08FFC64,
		0xEB5AA93F2317D635, 0xA9A6E6260D712103, 0x81A57C16DBCF555F, 0x43B831CD0347C826, 0x01F22F1A11A5569F,
		0x05E5635A21D9AE61, 0x64BEFEF28CC970F2, 0x613670957BC46611, 0xB87C5A554FD00ECB, 0x8C3EE88A1CCF32C8,
		0x940C7922AE3A2614, 0x1841F924A2C509E4, 0x16F53526E70465C2, 0x75F644E97F30A13B, 0xEAF1FF7B5CECA249,
	}
	twice := [25]uint64{
		0x2D5C954DF96ECB3C, 0x6A332CD07057B56D, 0x093D8D1270D76B6C, 0x8A20D9B25569D094, 0x4F9C4F99E5E7F156,
		0xF957B9A2DA65FB38, 0x85773DAE1275AF0D, 0xFAF4F247C3D810F7, 0x1F1B9EE6F79A8759, 0xE4FECC0FEE98B425,
		0x68CE61B6B9CE68A1, 0xDEEA66C4BA8F974F, 0x33C43D836EAFB1F5, 0xE00654042719DBD9, 0x7CF8A9F009831265,
		0xFD5449A6BF174743, 0x97DDAD33D8994B40, 0x48EAD5FC5D0BE774, 0xE3B8C8EE55B7B03C, 0x91A0226E649E42E9,
		0x900E3129E7BADD7B, 0x202A9EC5FAA3CCE8, 0x5B3402464E1C3DB6, 0x609F4E62A44C1059, 0x20D06CD26A8FBF5C,
	}
	if got := keccak.Turn([25]uint64{}); got != once {
		t.Errorf("once: %x", got)
	}
	if got := keccak.Turn(once); got != twice {
		t.Errorf("twice: %x", got)
	}
}

// TestTurnModel: each single bit, each full lane, all at once, and a spread (P4.1).
func TestTurnModel(t *testing.T) {
	var all [25]uint64
	for i := range all {
		for j := range 64 {
			sameTurn(t, oneLane(i, 1<<j))
		}
		sameTurn(t, oneLane(i, math.MaxUint64))
		all[i] = math.MaxUint64
	}
	sameTurn(t, all)
	for n := range uint64(500) {
		sameTurn(t, spreadLanes(n))
	}
}

// TestTurnLibrary: what the library sums and squeezes by the same permutation (P4.1).
func TestTurnLibrary(t *testing.T) {
	out := make([]byte, 100*168)
	sha3.NewSHAKE128().Read(out)
	lanes := [25]uint64{0: 0x1f, 20: 1 << 63}
	for len(out) > 0 {
		lanes = keccak.Turn(lanes)
		for _, lane := range lanes[:21] {
			if want := binary.LittleEndian.Uint64(out); lane != want {
				t.Fatalf("%x, want %x, with %d bytes to come", lane, want, len(out))
			}
			out = out[8:]
		}
	}
}

// TestModel: the sum of the tests themselves is that of FIPS 202, but for one byte.
func TestModel(t *testing.T) {
	for n := range 3 * block {
		b := spreadBytes(n)
		if sumOf([25]uint64{}, b, 6) != sha3.Sum256(b) {
			t.Fatal(n)
		}
	}
}

// TestBegin: all noughts (P4.2).
func TestBegin(t *testing.T) {
	if keccak.Begin() != (api.Sponge{}) {
		t.Error(keccak.Begin())
	}
	if got := mustAdd(t, keccak.Begin(), []byte{7}); keccak.Begin() == got {
		t.Error("nothing was held")
	}
}

// TestAdd: a sponge of any number of bytes, to each lane and byte (P4.2, P4.3).
func TestAdd(t *testing.T) {
	for n := range 4*block + 2 {
		b := spreadBytes(n)
		if got, want := mustAdd(t, keccak.Begin(), b), spongeOf([25]uint64{}, b); got != want {
			t.Fatalf("%d bytes: %v, want %v", n, got, want)
		}
	}
}

// TestAddFull: with the last byte of a block nothing is held any more, and all held bytes are noughts (P4.3).
func TestAddFull(t *testing.T) {
	s := mustAdd(t, keccak.Begin(), spreadBytes(block-1))
	if s.N != block-1 || s.Lanes != [25]uint64{} {
		t.Errorf("before: %d held", s.N)
	}
	s = mustAdd(t, s, []byte{200})
	if s.N != 0 || s.Held != [block]byte{} || s.Lanes == [25]uint64{} {
		t.Errorf("behind: %d held: %v", s.N, s.Held)
	}
}

// TestAddTo: bytes to sponges with any lanes and any number of held bytes (P4.3).
func TestAddTo(t *testing.T) {
	b := spreadBytes(4 * block)
	for n := range block {
		lanes := spreadLanes(uint64(n))
		s := spongeOf(lanes, b[:n])
		for _, m := range []int{0, 1, 7, 8, block - n - 1, block - n, block - n + 1, block, 2*block - n, 3 * block} {
			if got, want := mustAdd(t, s, b[n:n+m]), spongeOf(lanes, b[:n+m]); got != want {
				t.Fatalf("%d bytes to %d: %v, want %v", m, n, got, want)
			}
		}
	}
}

// TestAddNothing leaves a sponge as it is, also one that holds noughts (P4.3).
func TestAddNothing(t *testing.T) {
	for n := range block {
		for _, s := range []api.Sponge{
			{Lanes: spreadLanes(1), N: n},
			spongeOf(spreadLanes(2), spreadBytes(n)),
		} {
			if mustAdd(t, s, nil) != s || mustAdd(t, s, []byte{}) != s {
				t.Fatal(n)
			}
		}
	}
}

// TestAddParts: bytes in three parts of any lengths, and one by one (P4.3).
func TestAddParts(t *testing.T) {
	b := spreadBytes(2*block + 28)
	want := spongeOf([25]uint64{}, b)
	for i := 0; i <= len(b); i += 9 {
		for j := i; j <= len(b); j += 7 {
			s := mustAdd(t, keccak.Begin(), b[:i])
			s = mustAdd(t, s, b[i:j])
			if mustAdd(t, s, b[j:]) != want {
				t.Fatal(i, j)
			}
		}
	}
	s := keccak.Begin()
	for i := range b {
		s = mustAdd(t, s, b[i:i+1])
		if s != spongeOf([25]uint64{}, b[:i+1]) {
			t.Fatal(i)
		}
	}
}

// TestNoughts: bytes that are 0 count as others do (P4.3, P4.5).
func TestNoughts(t *testing.T) {
	known := map[[32]byte]int{}
	for n := range 2*block + 2 {
		b := make([]byte, n)
		if got := mustAdd(t, keccak.Begin(), b); got != spongeOf([25]uint64{}, b) {
			t.Fatal(n, got)
		}
		h := keccak.Sum(b)
		if m, ok := known[h]; ok || h != sumOf([25]uint64{}, b, 1) {
			t.Fatal(n, m, h)
		}
		known[h] = n
	}
}

// refused by both calls, with nothing answered.
func refused(t *testing.T, s api.Sponge) {
	t.Helper()
	for _, b := range [][]byte{nil, {}, {0}, {1}, spreadBytes(block), spreadBytes(300)} {
		if r, e := keccak.Add(s, b); r != (api.Sponge{}) || e != api.ErrState {
			t.Fatalf("Add of %d bytes to N %d: %v %v", len(b), s.N, r, e)
		}
	}
	if h, e := keccak.End(s); h != [32]byte{} || e != api.ErrState {
		t.Fatalf("End of N %d: %v %v", s.N, h, e)
	}
}

// TestRefusedNumber: N is below 0 or above 135 (P4.3, P4.4).
func TestRefusedNumber(t *testing.T) {
	for _, n := range []int{math.MinInt, math.MinInt32, -136, -2, -1, 136, 137, 271, 272, math.MaxInt32, math.MaxInt} {
		refused(t, api.Sponge{N: n})
		refused(t, api.Sponge{N: n, Lanes: spreadLanes(3), Held: [block]byte(spreadBytes(block))})
	}
}

// TestRefusedHeld: a byte from place N on is not 0 (P4.3, P4.4).
func TestRefusedHeld(t *testing.T) {
	for n := range block {
		for i := range block {
			for _, b := range []byte{1, 128, 255} {
				s := api.Sponge{Lanes: spreadLanes(4), N: n}
				s.Held[i] = b
				if i >= n {
					refused(t, s)
				} else if got := mustAdd(t, s, nil); got != s {
					t.Fatal(n, i)
				}
			}
		}
	}
}

// TestEnd: the sum from any lanes and any number of held bytes on (P4.4).
func TestEnd(t *testing.T) {
	for n := range block {
		lanes, b := spreadLanes(uint64(n)), spreadBytes(n)
		if got, want := mustEnd(t, spongeOf(lanes, b)), sumOf(lanes, b, 1); got != want {
			t.Errorf("%d held: %x, want %x", n, got, want)
		}
	}
}

// TestEndLast: with 135 held bytes the 1 and the 128 are of one byte (P4.4).
func TestEndLast(t *testing.T) {
	s := mustAdd(t, keccak.Begin(), spreadBytes(block-1))
	whole := append(spreadBytes(block-1), 129)
	lanes := mustAdd(t, keccak.Begin(), whole).Lanes
	got := mustEnd(t, s)
	for i := range 4 {
		if binary.LittleEndian.Uint64(got[8*i:]) != lanes[i] {
			t.Errorf("lane %d: %x", i, got)
		}
	}
}

// TestSumKnown: sums that are known (P4.5).
func TestSumKnown(t *testing.T) {
	for text, want := range map[string]string{
		"":        "c5d2460186f7233c927e7db2dcc703c0e500b653ca82273b7bfad8045d85a470",
		"abc":     "4e03657aea45a94fc7d47ba826c8d667c0d1e6e33a64a036ec44f58fa12d6c45",
		"testing": "5f16f4c7f149ac4f9510d9cf8cf384038ad348b3bcdc01915f95de12df9d1b02",
		"The quick brown fox jumps over the lazy dog":  "4d741b6f1eb29cb2a9b9911c82f56fa8d73b04959d3d9d222895df6c0b28aa15",
		"The quick brown fox jumps over the lazy dog.": "578951e24efd62a3d63a86f7cd19aaa53c898fe287d2552133220370240b572d",
		strings.Repeat("a", 1000000):                   "fadae6b49f129bbb812be8407b7b2894f34aecf6dbd1f9b0f0c7e9853098fc96",
	} {
		h := keccak.Sum([]byte(text))
		if got := hex.EncodeToString(h[:]); got != want {
			t.Errorf("%.50s: %s, want %s", text, got, want)
		}
	}
}

// TestSum: of any number of bytes, as piece by piece, and not as FIPS 202 has it (P4.5).
func TestSum(t *testing.T) {
	for n := range 4*block + 2 {
		b := spreadBytes(n)
		got := keccak.Sum(b)
		if want := sumOf([25]uint64{}, b, 1); got != want {
			t.Fatalf("%d bytes: %x, want %x", n, got, want)
		}
		if got != mustEnd(t, mustAdd(t, mustAdd(t, keccak.Begin(), b[:n/3]), b[n/3:])) {
			t.Fatalf("%d bytes in parts", n)
		}
		if got == sha3.Sum256(b) {
			t.Fatalf("%d bytes: the sum of FIPS 202", n)
		}
	}
}

// TestLeft: bytes that are handed in are not changed, nor their spare room, and not kept.
func TestLeft(t *testing.T) {
	room := spreadBytes(400)
	for _, n := range []int{0, 1, 135, 136, 137, 272, 300} {
		b := room[:n]
		s := mustAdd(t, keccak.Begin(), b)
		h := keccak.Sum(b)
		if !bytes.Equal(room, spreadBytes(400)) {
			t.Fatalf("%d bytes: changed", n)
		}
		clear(b)
		if s != spongeOf([25]uint64{}, spreadBytes(n)) || mustEnd(t, s) != h {
			t.Fatalf("%d bytes: kept", n)
		}
		copy(b, spreadBytes(n))
	}
}
