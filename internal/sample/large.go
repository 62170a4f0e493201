package sample

import "cabotage/api"

// Beside writes a process so many times, without much depth.
func Beside(s string, many int) string {
	if many == 1 {
		return s
	}
	return "(" + Beside(s, many/2) + " | " + Beside(s, many-many/2) + ")"
}

// Spread returns a program of one definition without rules: so many places.
func Spread(places int) api.ScopeProg {
	p := api.ScopeProg{Nodes: []api.ScopeNode{{Op: api.TermDef, Kids: []int{1}}, {Op: api.TermNil}}, Defs: make([]api.ScopeDef, 1)}
	for range places {
		p.Defs[0].Spots = append(p.Defs[0].Spots, api.ScopeSpot{Node: len(p.Nodes)})
		p.Nodes = append(p.Nodes, api.ScopeNode{Op: api.TermNil})
	}
	return p
}

// Linked returns a program of definitions around each other, each with as many channels as some number says; three of them in a rule.
func Linked(many ...int) api.ScopeProg {
	var p api.ScopeProg
	for i, chans := range many {
		at := len(p.Nodes)
		p.Nodes = append(p.Nodes, api.ScopeNode{Op: api.TermDef, N: i, Kids: []int{0}})
		d := api.ScopeDef{Chans: make([]api.ScopeChan, chans)}
		for j := 0; j < chans; j += 3 {
			r := api.ScopeRule{Node: len(p.Nodes)}
			for k := range min(3, chans-j) {
				r.Joins = append(r.Joins, j+k)
			}
			d.Rules = append(d.Rules, r)
			p.Nodes = append(p.Nodes, api.ScopeNode{Op: api.TermNil})
		}
		p.Defs = append(p.Defs, d)
		p.Nodes[at].Kids[0] = len(p.Nodes)
	}
	p.Nodes = append(p.Nodes, api.ScopeNode{Op: api.TermNil})
	return p
}

// Stopping is Spread, but with processes that wait in so many places, and so many of them in the place 0.
func Stopping(places, beside int) api.ScopeProg {
	p := Spread(places)
	for i := range places {
		p.Nodes[2+i].Op = api.TermStop
	}
	p.Nodes[1].Op = api.TermStop
	last := 1
	for range beside - 1 {
		p.Nodes[last] = api.ScopeNode{Op: api.TermPar, Kids: []int{len(p.Nodes), len(p.Nodes) + 1}}
		p.Nodes = append(p.Nodes, api.ScopeNode{Op: api.TermStop}, api.ScopeNode{Op: api.TermStop})
		last = len(p.Nodes) - 1
	}
	return p
}

// Crowded returns a solution with many steps: so many groups of a definition of 3 channels with 12 messages each, and 15 rules of all of them.
func Crowded(groups int) (api.ScopeProg, api.Sol) {
	p := api.ScopeProg{Nodes: []api.ScopeNode{{Op: api.TermDef, Kids: []int{1}}, {Op: api.TermNil}}, Defs: []api.ScopeDef{{Chans: make([]api.ScopeChan, 3)}}}
	for range 15 {
		p.Defs[0].Rules = append(p.Defs[0].Rules, api.ScopeRule{Joins: []int{2, 0, 1}, Node: len(p.Nodes)})
		p.Nodes = append(p.Nodes, api.ScopeNode{Op: api.TermNil})
	}
	s := api.Sol{Spots: []api.SolSpot{{In: -1}}}
	for g := range groups {
		x := api.SolGroup{}
		for i := range 3 {
			x.Env = append(x.Env, api.SolVal{Kind: api.SolChan, N: len(s.Chans)})
			s.Chans = append(s.Chans, api.SolQ{Group: g, Index: i, Queue: make([]api.SolMsg, 12)})
		}
		s.Groups = append(s.Groups, x)
	}
	return p, s
}
