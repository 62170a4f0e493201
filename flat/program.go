package flat

import (
	"slices"

	"cabotage/api"
	"cabotage/sol"
)

// program is a flat program that is formed.
type program struct {
	api.FlatProg
	shape shape
	views []view // what each node has
	makes []int  // which node does each definition
}

// mustBeFormed gives up for a flat program that is not formed. Where the bare one is formed, and all indices are in their lists, there is a formed program when it is opened: names alone become other ones, which are places of the environment.
func mustBeFormed(f api.FlatProg) program {
	s := shapeOf(bare(f))
	must(rising(f.Take, len(f.Free)), api.ErrArg)
	views := s.views(f.Take, func(at int, list []int) []int {
		take := f.Nodes[at].Take
		must(rising(take, len(list)), api.ErrArg)
		return chosen(list, take)
	})
	p := program{f, s, views, make([]int, len(f.Defs))}
	for at, n := range f.Nodes {
		must(fits(n, views[at]), api.ErrArg)
		if n.Op == api.TermDef {
			p.makes[n.N] = at
		}
	}
	return p
}

// bare returns what a flat program is without what is taken. It is a formed program if the flat one is formed: an index in a list is a place of the environment, too, as the list is no longer than that.
func bare(f api.FlatProg) api.ScopeProg {
	p := api.ScopeProg{Free: f.Free, Defs: f.Defs, Main: f.Main}
	for _, n := range f.Nodes {
		p.Nodes = append(p.Nodes, api.ScopeNode{Op: n.Op, N: n.N, Args: n.Args, Kids: n.Kids})
	}
	return p
}

// fits reports whether each index in a node is one of those that it is meant for, and it takes nothing if its kind does not.
func fits(n api.FlatNode, v view) bool {
	fine := true
	switch n.Op {
	case api.TermSend:
		fine = numbered(n.N, len(v.list)) && len(n.Take) == 0
	case api.TermGo, api.TermWatch:
		fine = numbered(n.N, len(v.taken))
	case api.TermNil, api.TermPar, api.TermIf:
		fine = len(n.Take) == 0
	}
	env := zeros(len(v.list))
	return fine && !slices.ContainsFunc(n.Args, func(e api.ScopeExp) bool {
		_, refused := sol.Value(e, env)
		return refused != api.OK
	})
}

// zeros returns so many integers 0.
func zeros(many int) []api.SolVal { return slices.Repeat([]api.SolVal{{Kind: api.SolInt}}, many) }

func (p program) lists() [][]int {
	var l [][]int
	for _, v := range p.views {
		l = append(l, v.list)
	}
	return l
}

// opened returns what the flat program is when it is opened.
func (p program) opened() api.ScopeProg {
	out := api.ScopeProg{Free: slices.Clone(p.Free), Defs: copyOfDefs(p.Defs), Main: p.Main}
	for at, n := range p.Nodes {
		x := opening(p.views[at])
		out.Nodes = append(out.Nodes, api.ScopeNode{Op: n.Op, N: x.number(n.Op, n.N), Args: x.exps(n.Args), Kids: slices.Clone(n.Kids)})
	}
	return out
}

// spare returns how many places are spare. They are those by which the flat program takes more than that which takes the least, as it takes all that this one does.
func (p program) spare() int { return takes(p.FlatProg) - takes(least(p.opened())) }

// takes returns how many places a flat program takes.
func takes(f api.FlatProg) int {
	n := len(f.Take)
	for _, x := range f.Nodes {
		n += len(x.Take)
	}
	return n
}

// copyOfDefs returns definitions that share no memory with those of l.
func copyOfDefs(l []api.ScopeDef) []api.ScopeDef {
	var out []api.ScopeDef
	for _, d := range l {
		c := api.ScopeDef{Chans: slices.Clone(d.Chans), Spots: slices.Clone(d.Spots), Rules: slices.Clone(d.Rules)}
		for i, r := range d.Rules {
			c.Rules[i].Joins = slices.Clone(r.Joins)
		}
		out = append(out, c)
	}
	return out
}
