package seen

import (
	"iter"
	"math/bits"

	"bascule/api"
)

// span: so many numbers has a part of a page.
const span = 64

// place of a number on a page: its part, and its bit there.
func place(n int) (int, uint64) {
	return n / span, 1 << (n % span)
}

// marks of a page, by their size.
func marks(p api.Page) iter.Seq[int] {
	return func(yield func(int) bool) {
		for part, left := range p {
			for left != 0 {
				if !yield(part*span + bits.TrailingZeros64(left)) {
					return
				}
				// The lowest bit has been told.
				left &= left - 1
			}
		}
	}
}
