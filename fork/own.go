package fork

import "bascule/api"

// own: a tree with lists of its own. All its calls stand in one list, and all their
// papers in another; out of these each block's calls and each call's paper are cut.
func own(t api.Tree) api.Tree {
	calls, papers := room(t.Blocks)
	blocks := make([]api.Block, len(t.Blocks))
	for i, b := range t.Blocks {
		b.Calls, calls = cut(calls, b.Calls)
		for j := range b.Calls {
			c := &b.Calls[j]
			c.Paper, papers = cut(papers, c.Paper)
		}
		blocks[i] = b
	}
	t.Blocks = blocks
	return t
}

// room for all calls of some blocks, and for all their papers.
func room(l []api.Block) ([]api.Call, []byte) {
	calls, papers := 0, 0
	for _, b := range l {
		calls += len(b.Calls)
		for _, c := range b.Calls {
			papers += len(c.Paper)
		}
	}
	return make([]api.Call, calls), make([]byte, papers)
}

// cut a copy of a list out of a room, and tell the rest of that. It is cut with its
// room, as else its spare room were the next one's.
func cut[T any](room, l []T) ([]T, []T) {
	n := copy(room, l)
	return room[:n:n], room[n:]
}
