package load

import (
	"bytes"

	"bascule/api"
	"bascule/tape"
	"bascule/wide"
)

// transfer of tokens.
type transfer struct {
	amount  api.U256
	fee     api.U256
	token   [32]byte
	home    int
	to      [32]byte
	toChain int
}

func (x *transfer) take(l api.Load) {
	x.amount, x.fee = l.Amount, l.Fee
	x.token, x.home = l.Token, l.Home
	x.to, x.toChain = l.To, l.ToChain
}

func (x *transfer) give() api.Load {
	return api.Load{Amount: x.amount, Fee: x.fee, Token: x.token, Home: x.home, To: x.to, ToChain: x.toChain}
}

func (x *transfer) mayBe() bool {
	return within(x.home, maxChain) && within(x.toChain, maxChain) && wide.Cmp(x.fee, x.amount) <= 0
}

func (x *transfer) put(b []byte) []byte {
	b = tape.PutWide(b, x.amount)
	b = append(b, x.token[:]...)
	b = tape.Put(b, x.home, 2)
	b = append(b, x.to[:]...)
	b = tape.Put(b, x.toChain, 2)
	return tape.PutWide(b, x.fee)
}

func (x *transfer) read(b []byte) {
	next := tape.EyeOn(b)
	x.amount = next.Wide()
	x.token = next.Word()
	x.home = next.Number(2)
	x.to = next.Word()
	x.toChain = next.Number(2)
	x.fee = next.Wide()
}

func (x *transfer) size() int { return sizeTransfer }

// pass: a transfer with bytes behind it.
type pass struct {
	transfer
	data []byte
}

func (x *pass) take(l api.Load) {
	x.transfer.take(l)
	x.data = l.Data
}

func (x *pass) give() api.Load {
	l := x.transfer.give()
	l.Data = bytes.Clone(x.data)
	return l
}

func (x *pass) mayBe() bool { return x.transfer.mayBe() && len(x.data) <= maxData }

func (x *pass) put(b []byte) []byte {
	b = x.transfer.put(b)
	return append(b, x.data...)
}

func (x *pass) read(b []byte) {
	x.transfer.read(b)
	x.data = b[min(sizeTransfer, len(b)):]
}

func (x *pass) size() int { return sizeTransfer + len(x.data) }
