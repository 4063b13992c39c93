package fork

import "bascule/api"

// has: is there a block at this place?
func has(t api.Tree, at int) bool { return at >= 0 && at < len(t.Blocks) }

// fits: do the numbers of the block at a place fit to those ahead of it? The first one
// has no calls, either.
func fits(l []api.Block, at int) bool {
	b := l[at]
	if at == 0 {
		return b.Parent == -1 && b.Height == 0 && len(b.Calls) == 0
	}
	return b.Parent >= 0 && b.Parent < at && b.Height == l[b.Parent].Height+1
}

// stands: does one block stand on another? All that one stands on is ahead of it, so
// that there is no need to look further than to the other.
func stands(l []api.Block, at, on int) bool {
	for at > on {
		at = l[at].Parent
	}
	return at == on
}

// best: the first one of the highest blocks that stand on the Final one.
func best(t api.Tree) int {
	r := t.Final
	for i, b := range t.Blocks {
		if b.Height > t.Blocks[r].Height && stands(t.Blocks, i, t.Final) {
			r = i
		}
	}
	return r
}

// line of the blocks on which one stands: each one's place there is its Height.
func line(l []api.Block, end int) []int {
	r := make([]int, l[end].Height+1)
	for at := end; at >= 0; at = l[at].Parent {
		r[l[at].Height] = at
	}
	return r
}
