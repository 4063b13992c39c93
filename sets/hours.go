package sets

import "bascule/api"

// latest hour at which a set may end.
const latest = api.MaxTime + api.Day

// ends: is the Until of the set at a place what it may be there?
func ends(l []api.Set, place int) bool {
	until := l[place].Until
	if place == len(l)-1 {
		return until == 0
	}
	return until >= earliest(l, place) && until <= latest
}

// earliest hour at which the set at a place may end: not before the one ahead of it.
func earliest(l []api.Set, place int) int {
	if place == 0 {
		return 1
	}
	return l[place-1].Until
}
