package coin

import (
	"bytes"
	"slices"

	"bascule/api"
	"bascule/wide"
)

// ordered: does everybody in a list hold something, and stand behind the one ahead?
func ordered(l []api.Holding) bool {
	for i, h := range l {
		if h.Amount == (api.U256{}) {
			return false
		}
		if i > 0 && against(l[i-1], h.Who) >= 0 {
			return false
		}
	}
	return true
}

// together: the sum of all amounts; whether it is too wide.
func together(l []api.Holding) (api.U256, bool) {
	var sum api.U256
	for _, h := range l {
		next, over := wide.Add(sum, h.Amount)
		if over {
			return api.U256{}, true
		}
		sum = next
	}
	return sum, false
}

// against: does a holding stand ahead of somebody (-1), behind (1), or is it that one's (0)?
func against(h api.Holding, who [32]byte) int {
	return bytes.Compare(h.Who[:], who[:])
}

// find the place of somebody in an ordered list; whether there is a holding.
func find(l []api.Holding, who [32]byte) (int, bool) {
	return slices.BinarySearchFunc(l, who, against)
}

// amount that somebody holds.
func amount(l []api.Holding, who [32]byte) api.U256 {
	if place, is := find(l, who); is {
		return l[place].Amount
	}
	return api.U256{}
}

// with: a new list, in which somebody holds this amount and all others what they held.
func with(l []api.Holding, who [32]byte, has api.U256) []api.Holding {
	place, is := find(l, who)
	ahead, behind := l[:place], l[place:]
	if is {
		behind = behind[1:]
	}
	var own []api.Holding
	// Who holds nothing has no holding.
	if has != (api.U256{}) {
		own = append(own, api.Holding{Who: who, Amount: has})
	}
	return slices.Concat(ahead, own, behind)
}
