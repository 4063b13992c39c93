package keccak

import "math/bits"

// The steps of a round bear the names that FIPS 202 gives them; scatter is its rho
// and pi at once.

// constants that the rounds take in, one a round (iota of FIPS 202).
var constants = [24]uint64{
	0x0000000000000001, 0x0000000000008082, 0x800000000000808a, 0x8000000080008000,
	0x000000000000808b, 0x0000000080000001, 0x8000000080008081, 0x8000000000008009,
	0x000000000000008a, 0x0000000000000088, 0x0000000080008009, 0x000000008000000a,
	0x000000008000808b, 0x800000000000008b, 0x8000000000008089, 0x8000000000008003,
	0x8000000000008002, 0x8000000000000080, 0x000000000000800a, 0x800000008000000a,
	0x8000000080008081, 0x8000000000008080, 0x0000000080000001, 0x8000000080008008,
}

// offsets: how far each lane is rotated.
var offsets = [25]int{
	0, 1, 62, 28, 27,
	36, 44, 6, 55, 20,
	3, 10, 43, 25, 39,
	41, 45, 15, 21, 8,
	18, 2, 61, 56, 14,
}

// sources: from which place the lane of each place comes.
var sources = [25]int{
	0, 6, 12, 18, 24,
	3, 9, 10, 16, 22,
	1, 7, 13, 19, 20,
	4, 5, 11, 17, 23,
	2, 8, 14, 15, 21,
}

// theta takes into each lane the columns beside it.
func theta(a [25]uint64) [25]uint64 {
	var columns [5]uint64
	for x := range columns {
		columns[x] = a[x] ^ a[x+5] ^ a[x+10] ^ a[x+15] ^ a[x+20]
	}
	for x := range columns {
		beside := columns[(x+4)%5] ^ bits.RotateLeft64(columns[(x+1)%5], 1)
		for i := x; i < len(a); i += 5 {
			a[i] ^= beside
		}
	}
	return a
}

// scatter the lanes, rotated, to other places.
func scatter(a [25]uint64) [25]uint64 {
	var b [25]uint64
	for i := range b {
		b[i] = bits.RotateLeft64(a[sources[i]], offsets[sources[i]])
	}
	return b
}

// chi takes into each lane the next two of its row.
func chi(a [25]uint64) [25]uint64 {
	for i := 0; i < len(a); i += 5 {
		row := [5]uint64(a[i : i+5])
		a[i] ^= ^row[1] & row[2]
		a[i+1] ^= ^row[2] & row[3]
		a[i+2] ^= ^row[3] & row[4]
		a[i+3] ^= ^row[4] & row[0]
		a[i+4] ^= ^row[0] & row[1]
	}
	return a
}
