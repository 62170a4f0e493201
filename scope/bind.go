package scope

import (
	"iter"
	"slices"

	"cabotage/api"
	"cabotage/term"
)

// around is what a scope asks the scope around it.
type around interface {
	size() int             // how many places its environment has
	place(name string) int // the last place at which a name stands
	laid() *api.ScopeProg  // the program that is laid
}

// scope has an environment with more names than the one around it.
type scope struct {
	around
	places map[string]int // where these names stand
}

func (s scope) size() int { return s.around.size() + len(s.places) }

func (s scope) place(name string) int {
	if n, ok := s.places[name]; ok {
		return n
	}
	return s.around.place(name)
}

// with returns the scope in which some names, all different, are added.
func (s scope) with(names []string) scope {
	places := map[string]int{}
	for i, n := range names {
		places[n] = s.size() + i
	}
	return scope{s, places}
}

// outside is the scope around all, in which there is no name.
type outside struct{ prog *api.ScopeProg }

func (o outside) size() int { return 0 }

func (o outside) place(name string) int { return 0 }

func (o outside) laid() *api.ScopeProg { return o.prog }

// bound returns the program of a process.
func bound(t api.Term) api.ScopeProg {
	free, e := term.Free(t)
	must(e == api.OK, e)
	p := &api.ScopeProg{Free: free}
	p.Main = scope{outside{p}, nil}.with(free).node(t)
	must(len(p.Free) <= api.ScopeFree && len(p.Defs) <= api.ScopeDefs, api.ErrLong)
	for _, d := range p.Defs {
		must(max(len(d.Chans), len(d.Spots), len(d.Rules)) <= api.ScopeParts, api.ErrLong)
	}
	return *p
}

// node lays a process, and all below it, and returns its number.
func (s scope) node(t api.Term) int {
	p := s.laid()
	at := len(p.Nodes)
	p.Nodes = append(p.Nodes, api.ScopeNode{})
	n := api.ScopeNode{Op: t.Op}
	for _, e := range t.Args {
		n.Args = append(n.Args, s.exp(e))
	}
	in := s
	switch t.Op {
	case api.TermSend, api.TermGo, api.TermWatch:
		n.N = s.place(t.Text)
	case api.TermDef:
		channels, places, _ := term.Defines(t)
		in = s.with(slices.Concat(channels, places))
		n.N = in.definition(t.Defs, len(channels))
	}
	for _, k := range t.Kids {
		n.Kids = append(n.Kids, in.node(k))
	}
	p.Nodes[at] = n
	return at
}

func (s scope) exp(e api.TermExp) api.ScopeExp {
	x := api.ScopeExp{Op: e.Op, N: e.N}
	if e.Op == api.TermName {
		x.N = s.place(e.Text)
	}
	for _, k := range e.Kids {
		x.Kids = append(x.Kids, s.exp(k))
	}
	return x
}

// definition lays what some Defs define, in the scope of their TermDef's Kid, and returns its number.
func (s scope) definition(defs []api.TermClause, channels int) int {
	p := s.laid()
	number := len(p.Defs)
	p.Defs = append(p.Defs, api.ScopeDef{})
	d := api.ScopeDef{Chans: make([]api.ScopeChan, channels)}
	spots := spotsOf(defs)
	for at, c := range rulesOf(defs, spots) {
		r := api.ScopeRule{At: at}
		var names []string
		for _, j := range c.Joins {
			n := s.place(j.Text) - s.around.size()
			d.Chans[n] = api.ScopeChan{At: at, Many: len(j.Names)}
			r.Joins = append(r.Joins, n)
			names = append(names, j.Names...)
		}
		r.Node = s.with(names).node(c.Kids[0])
		d.Rules = append(d.Rules, r)
	}
	for _, x := range spots {
		d.Spots = append(d.Spots, api.ScopeSpot{In: x.in, Node: s.node(x.clause.Kids[0])})
	}
	p.Defs[number] = d
	return number
}

// spot is a place among Defs, and the number of the one in whose Defs it stands.
type spot struct {
	in     int
	clause api.TermClause
}

// spotsOf returns the places among some Defs, and among theirs: the first one is the place 1.
func spotsOf(defs []api.TermClause) []spot {
	var l []spot
	var walk func(in int, defs []api.TermClause)
	walk = func(in int, defs []api.TermClause) {
		for _, d := range defs {
			if d.Form == api.TermPlace {
				l = append(l, spot{in, d})
				walk(len(l), d.Defs)
			}
		}
	}
	walk(0, defs)
	return l
}

// rulesOf goes through the rules of some Defs: those in the place 0, those in the place 1, and so on; with each comes its place.
func rulesOf(defs []api.TermClause, spots []spot) iter.Seq2[int, api.TermClause] {
	lists := [][]api.TermClause{defs}
	for _, s := range spots {
		lists = append(lists, s.clause.Defs)
	}
	return func(yield func(int, api.TermClause) bool) {
		for at, l := range lists {
			for _, c := range l {
				if c.Form == api.TermRule && !yield(at, c) {
					return
				}
			}
		}
	}
}
