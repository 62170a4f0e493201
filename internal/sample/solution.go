package sample

import (
	"slices"

	"cabotage/api"
	"cabotage/scope"
)

// solution is one that is being made for a program.
type solution struct {
	api.Sol
	api.ScopeProg
	choose Choose
	sizes  []int
}

// Solution returns a solution that is formed for a program; for the most part no run has it.
func Solution(choose Choose, p api.ScopeProg) api.Sol {
	sizes, _ := scope.Sizes(p)
	s := &solution{api.Sol{Spots: []api.SolSpot{{In: -1, Dead: choose(20) == 0}}}, p, choose, sizes}
	for range choose(6) * min(1, len(p.Defs)) {
		s.group(choose(len(p.Defs)))
	}
	placed := []int{0}
	for _, b := range choose.order(len(s.Spots)) {
		if b > 0 {
			in := placed[choose(len(placed))]
			s.Spots[b] = api.SolSpot{In: in, Dead: s.Spots[in].Dead || choose(4) == 0}
			placed = append(placed, b)
		}
	}
	s.fill()
	for range choose(8) {
		s.wait()
	}
	return s.Sol
}

// group makes a group of a definition, if there is room for its places.
func (s *solution) group(def int) {
	d := s.Defs[def]
	if len(s.Spots)+len(d.Spots) > api.SolSpots {
		return
	}
	for i := range d.Chans {
		s.Chans = append(s.Chans, api.SolQ{Group: len(s.Groups), Index: i})
	}
	s.Groups = append(s.Groups, api.SolGroup{Def: def})
	s.Spots = append(s.Spots, make([]api.SolSpot, len(d.Spots))...)
}

// fill gives the groups places and environments, and the channels messages.
func (s *solution) fill() {
	channel, place := 0, 1
	for g := range s.Groups {
		x := &s.Groups[g]
		d := s.Defs[x.Def]
		at := slices.IndexFunc(s.Nodes, func(n api.ScopeNode) bool { return n.Op == api.TermDef && n.N == x.Def })
		x.At, x.Env = s.choose(len(s.Spots)), s.values(s.sizes[at])
		places := []int{x.At}
		for i := range d.Spots {
			places = append(places, place+i)
		}
		for i, c := range d.Chans {
			s.Chans[channel+i].At = places[c.At]
			s.messages(&s.Chans[channel+i], c.Many)
			x.Env = append(x.Env, api.SolVal{Kind: api.SolChan, N: channel + i})
		}
		for _, b := range places[1:] {
			x.Env = append(x.Env, api.SolVal{Kind: api.SolPlace, N: b})
		}
		channel, place = channel+len(d.Chans), place+len(d.Spots)
	}
}

// messages puts messages into a queue: a few ones, or as many as there can be.
func (s *solution) messages(q *api.SolQ, many int) {
	long := s.choose(4)
	if s.choose(17) == 0 {
		long = api.SolQueue
	}
	if s.Spots[q.At].Dead {
		return
	}
	for range long {
		q.Queue = append(q.Queue, api.SolMsg{Vals: s.values(many)})
	}
}

// wait makes a process wait in a place, if it lives and the program has one that can wait.
func (s *solution) wait() {
	var nodes []int
	for i, n := range s.Nodes {
		if n.Op == api.TermGo || n.Op == api.TermStop || n.Op == api.TermWatch {
			nodes = append(nodes, i)
		}
	}
	at := s.choose(len(s.Spots))
	if len(nodes) == 0 || s.Spots[at].Dead {
		return
	}
	node := nodes[s.choose(len(nodes))]
	env := s.values(s.sizes[node])
	if s.Nodes[node].Op != api.TermStop && s.choose(4) > 0 {
		env[s.Nodes[node].N] = api.SolVal{Kind: api.SolPlace, N: s.choose(len(s.Spots))}
	}
	s.Waits = append(s.Waits, api.SolWait{At: at, Node: node, Env: env})
}

// values returns so many values.
func (s *solution) values(many int) []api.SolVal {
	var l []api.SolVal
	for range many {
		l = append(l, Value(s.choose, s.ScopeProg, s.Sol))
	}
	return l
}

// Value returns a value of a solution.
func Value(choose Choose, p api.ScopeProg, s api.Sol) api.SolVal {
	switch k := choose(8); {
	case k < 2 && len(p.Free) > 0:
		return api.SolVal{Kind: api.SolFree, N: choose(len(p.Free))}
	case k < 5 && len(s.Chans) > 0:
		return api.SolVal{Kind: api.SolChan, N: choose(len(s.Chans))}
	case k < 7:
		return api.SolVal{Kind: api.SolPlace, N: choose(len(s.Spots))}
	}
	return api.SolVal{Kind: api.SolInt, N: []int{0, 1, -1, api.TermMost, -api.TermMost}[choose(5)]}
}
