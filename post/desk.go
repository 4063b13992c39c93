package post

import (
	"slices"

	"bascule/api"
	"bascule/load"
)

// maxHours that may pass in one call.
const maxHours = 1000

// desk at which a call is done. The post is its own one; behind a call that is refused
// it is as far as the call has come, and of no use any more.
type desk struct {
	api.Post
	curve api.Curve
	call  api.Call
}

// do the call (P16.4).
func (d *desk) do() api.Errno {
	switch d.call.Kind {
	case api.Send:
		return d.send()
	case api.Take:
		return d.take()
	case api.Tell:
		return d.tell()
	case api.Wait:
		return d.wait()
	}
	return api.ErrKind
}

// asset with this token and home. What is changed behind the pointer is changed at the
// desk, until there is one asset more.
func (d *desk) asset(token [32]byte, home int) (*api.Asset, api.Errno) {
	at := slices.IndexFunc(d.Assets, named(token, home))
	if at < 0 {
		return nil, api.ErrNone
	}
	return &d.Assets[at], api.OK
}

// say a load: a message is sent (P16.5).
func (d *desk) say(l api.Load) api.Errno {
	b, e := load.Encode(l)
	if e != api.OK {
		return e
	}
	if d.Next == api.MaxSeen {
		return api.ErrFull
	}
	d.Sent = append(d.Sent, api.Body{
		Time: d.Now, Chain: d.Chain, Emitter: Emitter(d.Chain), Number: d.Next, Level: 1, Load: b,
	})
	d.Next++
	return api.OK
}

// tell what a token is that is at home here (P16.7).
func (d *desk) tell() api.Errno {
	a, e := d.asset(d.call.Token, d.Chain)
	if e != api.OK {
		return e
	}
	return d.say(api.Load{Kind: api.Meta, Token: a.Token, Home: a.Home, Decimals: a.Decimals})
}

// wait some hours (P16.7).
func (d *desk) wait() api.Errno {
	n := d.call.Hours
	if n < 1 || n > maxHours || d.Now+n > api.MaxTime {
		return api.ErrRange
	}
	d.Now += n
	return api.OK
}
