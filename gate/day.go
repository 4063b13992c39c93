package gate

import "bascule/api"

// worth: may a transfer, or a limit, be of so much?
func worth(n int) bool { return n >= 0 && n <= api.MaxValue }

// chained: is there such a chain?
func chained(n int) bool { return n >= 0 && n < api.MaxChains }

// limits: may the chains have these?
func limits(l [api.MaxChains]int) bool {
	for _, n := range l {
		if !worth(n) {
			return false
		}
	}
	return true
}

// has: is there one with this Id?
func has(l []api.Queued, id int) bool {
	for _, q := range l {
		if q.Id == id {
			return true
		}
	}
	return false
}

// within: is it less than a day ago that it came?
func within(g api.Gate, q api.Queued) bool { return g.Now-q.At < api.Day }

// recent: a list of its own of those that passed within a day.
func recent(g api.Gate) []api.Queued {
	var l []api.Queued
	for _, q := range g.Past {
		if within(g, q) {
			l = append(l, q)
		}
	}
	return l
}

// left: how much may pass now, chain by chain. It is below 0 where more has passed
// than the limit says.
func left(g api.Gate) [api.MaxChains]int {
	l := g.Limit
	for _, q := range g.Past {
		if within(g, q) {
			l[q.Chain] -= q.Value
		}
	}
	return l
}

// passes: may it pass now?
func passes(g api.Gate, q api.Queued) bool {
	l := left(g)
	return q.Value < g.Big[q.Chain] && q.Value <= l[q.Chain] && len(g.Past) < api.MaxQueue
}

// again: all that wait are looked at once more; what is let go. The gate's Past must
// be its own already, the new Queue is.
func again(g api.Gate) (api.Gate, []int) {
	wait := g.Queue
	g.Queue = nil
	var free []int
	for _, q := range wait {
		switch {
		case !within(g, q):
			free = append(free, q.Id)
		case passes(g, q):
			q.At = g.Now
			g.Past = append(g.Past, q)
			free = append(free, q.Id)
		default:
			g.Queue = append(g.Queue, q)
		}
	}
	return g, free
}
