package sol

import (
	"slices"

	"cabotage/api"
)

// numbered reports whether n is one of the numbers of so many things.
func numbered(n, many int) bool { return n >= 0 && n < many }

// solutionOf returns the solution, if it is formed for the program.
func solutionOf(p api.ScopeProg, s api.Sol) (solution, bool) {
	q, formed := programOf(p)
	w := solution{q, s}
	return w, formed && w.formed()
}

// formed reports whether the solution is formed. The order matters: places and groups are as they have to be before the channels ask them for their own.
func (s solution) formed() bool {
	return len(s.Spots) <= api.SolSpots && len(s.Groups) <= api.SolGroups && len(s.Chans) <= api.SolChans && len(s.Waits) <= api.SolWaits &&
		nested(s.Spots) && !slices.ContainsFunc(s.Spots, s.outlives) &&
		s.formedGroups() && s.formedChans() && !slices.ContainsFunc(s.Waits, s.notWaiting)
}

// nested reports whether each place is within the place 0. From there nothing is met twice, as each place is in one only.
func nested(l []api.SolSpot) bool {
	if len(l) == 0 || l[0].In != -1 {
		return false
	}
	for _, s := range l[1:] {
		if !numbered(s.In, len(l)) {
			return false
		}
	}
	return len(within(l, 0)) == len(l)
}

// outlives reports whether a place lives in one that is dead.
func (s solution) outlives(x api.SolSpot) bool { return !x.Dead && x.In >= 0 && s.Spots[x.In].Dead }

// formedGroups reports whether the groups are as they have to be, and channels and places are their own, in order.
func (s solution) formedGroups() bool {
	channel, place := 0, 1
	for _, g := range s.Groups {
		if !numbered(g.Def, len(s.Defs)) || !numbered(g.At, len(s.Spots)) || !s.environment(g.Env, s.inner[g.Def]) {
			return false
		}
		d := s.Defs[g.Def]
		own := owned(d, channel, place)
		if !slices.Equal(g.Env[len(g.Env)-len(own):], own) {
			return false
		}
		channel, place = channel+len(d.Chans), place+len(d.Spots)
	}
	return channel == len(s.Chans) && place == len(s.Spots)
}

// formedChans reports whether the channels are those of the groups, with queues as they can have them.
func (s solution) formedChans() bool {
	for g := range s.Groups {
		for i, c := range s.def(g).Chans {
			q := s.Chans[s.channel(g, i)]
			if q.Group != g || q.Index != i || q.At != s.place(g, c.At) || !s.queue(q, c.Many) {
				return false
			}
		}
	}
	return true
}

// queue reports whether a channel can have its messages, each of which brings so many values.
func (s solution) queue(q api.SolQ, many int) bool {
	if len(q.Queue) > api.SolQueue || s.Spots[q.At].Dead && len(q.Queue) > 0 {
		return false
	}
	return !slices.ContainsFunc(q.Queue, func(m api.SolMsg) bool { return !s.environment(m.Vals, many) })
}

// notWaiting reports whether a process cannot wait.
func (s solution) notWaiting(x api.SolWait) bool {
	if !numbered(x.At, len(s.Spots)) || s.Spots[x.At].Dead || !numbered(x.Node, len(s.Nodes)) {
		return true
	}
	switch s.Nodes[x.Node].Op {
	case api.TermGo, api.TermStop, api.TermWatch:
		return !s.environment(x.Env, s.sizes[x.Node])
	}
	return true
}

// environment reports whether a list has so many values of the solution.
func (s solution) environment(l []api.SolVal, many int) bool {
	return len(l) == many && !slices.ContainsFunc(l, s.unknown)
}

// unknown reports whether v is no value of the solution.
func (s solution) unknown(v api.SolVal) bool {
	switch v.Kind {
	case api.SolFree:
		return !numbered(v.N, len(s.Free))
	case api.SolChan:
		return !numbered(v.N, len(s.Chans))
	case api.SolPlace:
		return !numbered(v.N, len(s.Spots))
	}
	return notValue(v)
}
