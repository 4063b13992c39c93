package post

import (
	"slices"

	"bascule/api"
)

// own: a post all of whose lists, and those within these, are its own.
func own(p api.Post) api.Post {
	p.Sets = each(p.Sets, func(s *api.Set) { s.Keys = slices.Clone(s.Keys) })
	p.Assets = each(p.Assets, func(a *api.Asset) { a.Coin.Holds = slices.Clone(a.Coin.Holds) })
	p.Sent = each(p.Sent, func(b *api.Body) { b.Load = slices.Clone(b.Load) })
	return p
}

// each: a new list, with something done to each of its elements.
func each[T any](l []T, do func(x *T)) []T {
	l = slices.Clone(l)
	for i := range l {
		do(&l[i])
	}
	return l
}
