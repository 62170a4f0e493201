package flat

import (
	"slices"

	"cabotage/api"
	"cabotage/sol"
)

// solution is a flat one of a flat program.
type solution struct {
	program
	api.Sol
}

// mustBeSolution gives up for a flat solution that is not formed. Nothing is copied before it is sure that nothing is too large.
func mustBeSolution(f api.FlatProg, s api.Sol) solution {
	p := mustBeFormed(f)
	must(len(s.Groups) <= api.SolGroups && len(s.Waits) <= api.SolWaits, api.ErrArg)
	must(sol.Check(p.opened(), p.filled(s)) == api.OK, api.ErrArg)
	return solution{p, s}
}

// hold says which values of an environment are held.
type hold struct {
	places []int
	size   int // of the whole environment
}

// held returns the values of an environment that are held.
func (h hold) held(env []api.SolVal) []api.SolVal { return chosen(env, h.places) }

// filled returns an environment in which 0 stands for each value that is not held. It gives up if other values are held than have to be.
func (h hold) filled(held []api.SolVal) []api.SolVal {
	must(len(held) == len(h.places), api.ErrArg)
	env := zeros(h.size)
	for i, n := range h.places {
		env[n] = held[i]
	}
	return env
}

// ofGroup returns what the groups of a definition hold.
func (p program) ofGroup(def int) hold {
	at := p.makes[def]
	kid := p.Nodes[at].Kids[0]
	return hold{slices.Concat(p.views[at].taken, p.shape.added(at, kid)), p.shape.sizes[kid]}
}

// ofWait returns what the processes hold that wait at a node.
func (p program) ofWait(node int) hold { return hold{p.views[node].taken, p.shape.sizes[node]} }

// flattened returns the flat solution of a solution, filled a flat solution filled. Both share memory with it.
func (p program) flattened(s api.Sol) api.Sol { return p.exchanged(s, hold.held) }

func (p program) filled(s api.Sol) api.Sol { return p.exchanged(s, hold.filled) }

// exchanged returns a solution with other environments. It gives up if there is no definition of a group, or no node of a process that waits.
func (p program) exchanged(s api.Sol, other func(h hold, env []api.SolVal) []api.SolVal) api.Sol {
	out := api.Sol{Spots: s.Spots, Chans: s.Chans}
	for _, g := range s.Groups {
		must(numbered(g.Def, len(p.Defs)), api.ErrArg)
		g.Env = other(p.ofGroup(g.Def), g.Env)
		out.Groups = append(out.Groups, g)
	}
	for _, x := range s.Waits {
		must(numbered(x.Node, len(p.Nodes)), api.ErrArg)
		x.Env = other(p.ofWait(x.Node), x.Env)
		out.Waits = append(out.Waits, x)
	}
	return out
}

// copyOf returns a solution that shares no memory with s, and in which no two lists share any.
func copyOf(s api.Sol) api.Sol {
	out := api.Sol{Spots: slices.Clone(s.Spots), Groups: slices.Clone(s.Groups), Chans: slices.Clone(s.Chans), Waits: slices.Clone(s.Waits)}
	for i := range out.Groups {
		out.Groups[i].Env = slices.Clone(out.Groups[i].Env)
	}
	for i := range out.Chans {
		queue := slices.Clone(out.Chans[i].Queue)
		for k := range queue {
			queue[k].Vals = slices.Clone(queue[k].Vals)
		}
		out.Chans[i].Queue = queue
	}
	for i := range out.Waits {
		out.Waits[i].Env = slices.Clone(out.Waits[i].Env)
	}
	return out
}

// def returns the definition of a group.
func (s solution) def(group int) api.ScopeDef { return s.Defs[s.Groups[group].Def] }

// channel returns the number of an own channel of a group.
func (s solution) channel(group, index int) int {
	d, env := s.def(group), s.Groups[group].Env
	return env[len(env)-len(d.Spots)-len(d.Chans)+index].N
}

// place returns the place of a group that a place of its definition says.
func (s solution) place(group, at int) int {
	if at == 0 {
		return s.Groups[group].At
	}
	env := s.Groups[group].Env
	return env[len(env)-len(s.def(group).Spots)+at-1].N
}

// within reports whether the place b is within the place a.
func (s solution) within(a, b int) bool {
	l, _ := sol.Within(s.Sol, a)
	return slices.Contains(l, b)
}
