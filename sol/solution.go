package sol

import (
	"slices"

	"cabotage/api"
	"cabotage/scope"
)

// program is a formed one.
type program struct {
	api.ScopeProg
	sizes []int // how large the environment of each node is
	inner []int // how large the environment of the groups of each definition is
}

// programOf returns the program, if it is formed.
func programOf(p api.ScopeProg) (program, bool) {
	sizes, e := scope.Sizes(p)
	if e != api.OK {
		return program{}, false
	}
	q := program{p, sizes, make([]int, len(p.Defs))}
	for _, n := range p.Nodes {
		if n.Op == api.TermDef {
			q.inner[n.N] = sizes[n.Kids[0]]
		}
	}
	return q, true
}

// solution is one of a program.
type solution struct {
	program
	api.Sol
}

// def returns the definition of a group.
func (s solution) def(group int) api.ScopeDef { return s.Defs[s.Groups[group].Def] }

// owned returns the own channels and places of a group, if they begin with these numbers.
func owned(d api.ScopeDef, channel, place int) []api.SolVal {
	var l []api.SolVal
	for i := range d.Chans {
		l = append(l, api.SolVal{Kind: api.SolChan, N: channel + i})
	}
	for i := range d.Spots {
		l = append(l, api.SolVal{Kind: api.SolPlace, N: place + i})
	}
	return l
}

// channel returns the number of an own channel of a group.
func (s solution) channel(group, index int) int {
	d, env := s.def(group), s.Groups[group].Env
	return env[len(env)-len(d.Spots)-len(d.Chans)+index].N
}

// place returns the place of a group that a place of its definition says.
func (s solution) place(group, at int) int {
	if at == 0 {
		return s.Groups[group].At
	}
	env := s.Groups[group].Env
	return env[len(env)-len(s.def(group).Spots)+at-1].N
}

// within returns the places that are within a place, sorted.
func within(l []api.SolSpot, place int) []int {
	held := make([][]int, len(l)) // the places that are in each one
	for b, s := range l {
		if b > 0 {
			held[s.In] = append(held[s.In], b)
		}
	}
	var out []int
	var add func(a int)
	add = func(a int) {
		out = append(out, a)
		for _, b := range held[a] {
			add(b)
		}
	}
	add(place)
	slices.Sort(out)
	return out
}

// copied returns a list of copies.
func copied[T any](l []T, one func(x T) T) []T {
	var out []T
	for _, x := range l {
		out = append(out, one(x))
	}
	return out
}

// copyOf returns a solution that shares no memory with s, and in which no two lists share any.
func copyOf(s api.Sol) api.Sol {
	message := func(m api.SolMsg) api.SolMsg { return api.SolMsg{Vals: slices.Clone(m.Vals)} }
	return api.Sol{
		Spots: slices.Clone(s.Spots),
		Groups: copied(s.Groups, func(g api.SolGroup) api.SolGroup {
			g.Env = slices.Clone(g.Env)
			return g
		}),
		Chans: copied(s.Chans, func(c api.SolQ) api.SolQ {
			c.Queue = copied(c.Queue, message)
			return c
		}),
		Waits: copied(s.Waits, func(x api.SolWait) api.SolWait {
			x.Env = slices.Clone(x.Env)
			return x
		}),
	}
}
