package log

import "bascule/api"

// Bytes that a record has on the disk beside its own.
const (
	head = 2 // its length
	foot = 1 // its sum
)

// sum of bytes, by 256.
func sum(b []byte) byte {
	var n byte
	for _, x := range b {
		n += x
	}
	return n
}

// fits: is this the sum of a record?
func fits(r []byte, last byte) bool { return sum(r) == last }

// framed: a record as it stands on the disk.
func framed(r []byte) []byte {
	b := []byte{byte(len(r) >> 8), byte(len(r))}
	b = append(b, r...)
	return append(b, sum(r))
}

// length of its record that a head says.
func length(b []byte) int { return int(b[0])<<8 | int(b[1]) }

// whole: the records with which some bytes begin, and how many of the bytes they have.
// They are cut out of these bytes with their room, as else the spare room of each were
// the next one's.
func whole(b []byte) ([][]byte, int) {
	var l [][]byte
	n := 0
reading:
	for len(b)-n >= head {
		rest := b[n:]
		end := head + length(rest)
		switch {
		case end > head+api.MaxRecord:
			break reading
		case end+foot > len(rest):
			break reading
		case !fits(rest[head:end], rest[end]):
			break reading
		}
		l = append(l, rest[head:end:end])
		n += end + foot
	}
	return l, n
}
