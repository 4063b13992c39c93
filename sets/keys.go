package sets

import (
	"slices"

	"bascule/api"
)

// lookKeys: look at the keys of one set.
func lookKeys(l []api.Key) api.Errno {
	if len(l) < 1 || len(l) > api.MaxKeys {
		return api.ErrSize
	}
	for i, k := range l {
		if slices.Contains(l[:i], k) {
			return api.ErrTwice
		}
	}
	return api.OK
}

// own: sets with lists of their own. All keys stand in one list; each set's are cut out
// of it with their room, as else their spare room were the keys of the next set.
func own(l ...api.Set) []api.Set {
	size := 0
	for _, s := range l {
		size += len(s.Keys)
	}
	keys := make([]api.Key, size)
	r := make([]api.Set, len(l))
	for i, s := range l {
		n := copy(keys, s.Keys)
		s.Keys, keys = keys[:n:n], keys[n:]
		r[i] = s
	}
	return r
}
