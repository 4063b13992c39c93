package post_test

import (
	"fmt"
	"reflect"
	"slices"
	"testing"

	"bascule/api"
	"bascule/post"
)

// span of memory that a list has, with its spare room.
type span struct {
	what     string
	from, to uintptr
}

// spans of all lists within a value.
func spans(what string, v reflect.Value) []span {
	var l []span
	switch v.Kind() {
	case reflect.Struct:
		for i := range v.NumField() {
			l = append(l, spans(what+"."+v.Type().Field(i).Name, v.Field(i))...)
		}
	case reflect.Slice:
		if v.Cap() > 0 {
			l = append(l, span{what, v.Pointer(), v.Pointer() + uintptr(v.Cap())*v.Type().Elem().Size()})
		}
		for i := range v.Len() {
			l = append(l, spans(fmt.Sprint(what, "[", i, "]"), v.Index(i))...)
		}
	}
	return l
}

// alone: do no two lists of these values share memory?
func alone(t *testing.T, what string, values ...any) {
	t.Helper()
	var l []span
	for i, v := range values {
		l = append(l, spans(fmt.Sprint(i), reflect.ValueOf(v))...)
	}
	slices.SortFunc(l, func(a, b span) int {
		if a.from < b.from {
			return -1
		}
		return 1
	})
	for i := 1; i < len(l); i++ {
		if l[i].from < l[i-1].to {
			t.Errorf("%s: %s and %s share memory", what, l[i-1].what, l[i].what)
		}
	}
}

// roomy: a list of its own, with spare room in which something stands.
func roomy[T any](l []T, spare ...T) []T {
	r := append(slices.Clone(l), spare...)
	return r[:len(l)]
}

// roomyPost: a post all of whose lists have such room.
func roomyPost(p api.Post) api.Post {
	p = deep(p)
	for i := range p.Sets {
		p.Sets[i].Keys = roomy(p.Sets[i].Keys, api.Key{9}, api.Key{8})
	}
	for i := range p.Assets {
		p.Assets[i].Coin.Holds = roomy(p.Assets[i].Coin.Holds, api.Holding{Who: bob, Amount: api.U256{7}})
	}
	for i := range p.Sent {
		p.Sent[i].Load = roomy(p.Sent[i].Load, 1, 2, 3)
	}
	p.Sets = roomy(p.Sets, api.Set{Index: 77, Keys: []api.Key{{7}}})
	p.Assets = roomy(p.Assets, api.Asset{Home: 77}, api.Asset{Coin: crowd(3)})
	p.Sent = roomy(p.Sent, api.Body{Number: 77, Load: []byte{7}})
	return p
}

// opened: a copy of a post with all the room that its lists have.
func opened(p api.Post) api.Post {
	p.Sets, p.Assets, p.Sent = p.Sets[:cap(p.Sets)], p.Assets[:cap(p.Assets)], p.Sent[:cap(p.Sent)]
	p = deep(p)
	for i, s := range p.Sets {
		p.Sets[i].Keys = slices.Clone(s.Keys[:cap(s.Keys)])
	}
	return p
}

// scrawl over all lists of a post, their room too.
func scrawl(p api.Post) {
	for _, s := range p.Sets[:cap(p.Sets)] {
		clear(s.Keys[:cap(s.Keys)])
	}
	for _, a := range p.Assets[:cap(p.Assets)] {
		clear(a.Coin.Holds[:cap(a.Coin.Holds)])
	}
	for _, b := range p.Sent[:cap(p.Sent)] {
		clear(b.Load[:cap(b.Load)])
	}
	clear(p.Sets[:cap(p.Sets)])
	clear(p.Assets[:cap(p.Assets)])
	clear(p.Sent[:cap(p.Sent)])
}

// callsTo a post on chain 0: of each kind, those that are refused late, too.
func callsTo() []api.Call {
	l := []api.Call{sending(0), sending(0), {Kind: api.Tell, Token: [32]byte{7}}, {Kind: api.Wait, Hours: 3}, {Kind: api.Wait}, {Kind: 9}, {Kind: api.Tell}}
	l[1].Home, l[1].Amount, l[1].Fee = 1, api.U256{4}, nought
	for _, s := range []scene{
		from(1, 0, 9, paid(0, 0)), from(1, 0, 9, paid(1, 0)), from(1, 0, 9, pass(paid(0, 0), 8)), from(1, 0, 9, meta([32]byte{9}, 1, 9)),
		from(1, 0, 9, meta([32]byte{7}, 1, 9)), from(1, 0, 9, transfer(api.U256{700}, nought, [32]byte{7}, 0, cleo, 0)), from(1, 0, 5, paid(0, 0)),
		turning(0, 3, keys(1, 2, 3)), turning(0, 2, keys(1, 2, 3)),
	} {
		x := s.call()
		x.Paper = roomy(x.Paper, 1, 2, 3)
		l = append(l, x)
	}
	return l
}

// Lists that are handed in are not changed, their spare room neither, and not kept; what
// comes out is shared with nothing.
func TestShared(t *testing.T) {
	for i, x := range callsTo() {
		for _, p := range []api.Post{stand(0), great(0), {Now: 1, Sets: setsOf(3)}} {
			what := fmt.Sprint("call ", i)
			if p.Now == 150 {
				p.Now = 180
			}
			p = roomyPost(p)
			was, letter := opened(p), slices.Clone(x.Paper[:cap(x.Paper)])
			q, e := post.Do(toy(), p, x)
			if !reflect.DeepEqual(opened(p), was) || !slices.Equal(x.Paper[:cap(x.Paper)], letter) {
				t.Errorf("%s: what is handed in is changed", what)
			}
			alone(t, what, p, q, x)
			r, f := post.Do(toy(), p, x)
			alone(t, what+" twice", p, q, r, x)
			if !same(q, r) || e != f {
				t.Errorf("%s: twice: %s, %d and %d", what, apart(r, q), e, f)
			}
			scrawl(p)
			clear(x.Paper)
			if !same(q, r) {
				t.Errorf("%s: kept", what)
			}
			scrawl(q)
			copy(x.Paper, letter)
		}
	}
}

// The same of Begin and Check.
func TestBeginShared(t *testing.T) {
	l, a := roomy(keys(3, 4, 5), api.Key{1}), assets(1, 4)
	for i := range a {
		a[i].Coin.Holds = roomy(a[i].Coin.Holds, api.Holding{Who: cleo})
	}
	a = roomy(a, api.Asset{Home: 9})
	given := api.Post{Sets: []api.Set{{Keys: l}}, Assets: a}
	was := opened(given)
	p, _ := post.Begin(1, l, a)
	q, _ := post.Begin(1, l, a)
	post.Begin(1, l, a[:cap(a)])
	if !reflect.DeepEqual(opened(given), was) {
		t.Error("what is handed in is changed")
	}
	alone(t, "Begin", p, q, given)
	scrawl(given)
	if !same(p, q) || post.Check(p) != api.OK {
		t.Errorf("kept: %s", apart(p, q))
	}
	p = roomyPost(stand(1))
	was = opened(p)
	post.Check(p)
	if !reflect.DeepEqual(opened(p), was) {
		t.Error("Check changes the post")
	}
}
