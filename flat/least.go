package flat

import (
	"maps"
	"slices"

	"cabotage/api"
	"cabotage/scope"
)

// least returns the flat program of a program, and gives up if that is not formed.
func least(p api.ScopeProg) api.FlatProg {
	s := shapeOf(p)
	needs, e := scope.Needs(p)
	must(e == api.OK, e)
	views := s.views(needs[p.Main], func(at int, list []int) []int { return s.least(at, needs) })
	out := api.FlatProg{Free: slices.Clone(p.Free), Take: needs[p.Main], Defs: copyOfDefs(p.Defs), Main: p.Main}
	for at, n := range p.Nodes {
		v := views[at]
		x := closing(v)
		f := api.FlatNode{Op: n.Op, N: x.number(n.Op, n.N), Args: x.exps(n.Args), Kids: slices.Clone(n.Kids)}
		for _, place := range v.taken {
			f.Take = append(f.Take, where(v.list, place))
		}
		out.Nodes = append(out.Nodes, f)
	}
	return out
}

// least returns what a node takes if it takes as little as can be.
func (s shape) least(at int, needs [][]int) []int {
	n := s.Nodes[at]
	switch n.Op {
	case api.TermGo, api.TermStop, api.TermWatch:
		return needs[at]
	case api.TermDef:
		needed := map[int]bool{}
		for _, k := range bodies(s.Defs[n.N]) {
			for _, place := range needs[k] {
				if place < s.sizes[at] {
					needed[place] = true
				}
			}
		}
		return slices.Sorted(maps.Keys(needed))
	}
	return nil
}

// exchange says what stands in place of a number: of one that is meant for a node's list, and of one that is meant for what it takes.
type exchange struct{ listed, taken func(n int) int }

// opening puts places in place of indices, closing indices in place of places.
func opening(v view) exchange {
	return exchange{func(n int) int { return v.list[n] }, func(n int) int { return v.taken[n] }}
}

func closing(v view) exchange {
	return exchange{func(n int) int { return where(v.list, n) }, func(n int) int { return where(v.taken, n) }}
}

// number returns what stands in place of the N of a node.
func (x exchange) number(op api.TermOp, n int) int {
	switch op {
	case api.TermSend:
		return x.listed(n)
	case api.TermGo, api.TermWatch:
		return x.taken(n)
	}
	return n
}

// exps returns expressions with other numbers for their names.
func (x exchange) exps(l []api.ScopeExp) []api.ScopeExp {
	var out []api.ScopeExp
	for _, e := range l {
		e.Kids = x.exps(e.Kids)
		if e.Op == api.TermName {
			e.N = x.listed(e.N)
		}
		out = append(out, e)
	}
	return out
}
