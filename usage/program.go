package usage

import (
	"iter"
	"maps"

	"cabotage/api"
	"cabotage/scope"
)

// channel is a channel of a definition.
type channel struct{ def, index int }

// program is a formed one.
type program struct {
	api.ScopeProg
	sizes   []int             // how large the environment of each node is
	denoted []map[int]channel // for each node, what the places of its environment denote, as far as that is known
	makers  []int             // the TermDef of each definition
}

// programOf returns the program, if it is formed.
func programOf(p api.ScopeProg) (program, bool) {
	sizes, e := scope.Sizes(p)
	if e != api.OK {
		return program{}, false
	}
	q := program{p, sizes, make([]map[int]channel, len(p.Nodes)), make([]int, len(p.Defs))}
	q.denoted[p.Main] = map[int]channel{}
	for at := range q.from(p.Main) {
		if n := p.Nodes[at]; n.Op == api.TermDef {
			q.makers[n.N] = at
		}
		inside := q.denotedInside(at)
		for k := range q.under(at) {
			q.denoted[k] = inside
		}
	}
	return q, true
}

// denotedInside returns what places denote right below a node.
func (p program) denotedInside(at int) map[int]channel {
	n := p.Nodes[at]
	if n.Op != api.TermDef {
		return p.denoted[at]
	}
	inside := maps.Clone(p.denoted[at])
	for i := range p.Defs[n.N].Chans {
		inside[p.sizes[at]+i] = channel{n.N, i}
	}
	return inside
}

// unruled stands where a node is the body of no rule.
const unruled = -1

// under goes through the nodes right below a node; with each comes the rule of which it is the body, or unruled.
func (p program) under(at int) iter.Seq2[int, int] {
	return func(yield func(int, int) bool) {
		n := p.Nodes[at]
		var d api.ScopeDef
		if n.Op == api.TermDef {
			d = p.Defs[n.N]
		}
		for i, r := range d.Rules {
			if !yield(r.Node, i) {
				return
			}
		}
		for _, s := range d.Spots {
			if !yield(s.Node, unruled) {
				return
			}
		}
		for _, k := range n.Kids {
			if !yield(k, unruled) {
				return
			}
		}
	}
}

// from goes through a node and all below it, each before those below itself.
func (p program) from(at int) iter.Seq[int] {
	return func(yield func(int) bool) {
		var walk func(at int) bool
		walk = func(at int) bool {
			if !yield(at) {
				return false
			}
			for k := range p.under(at) {
				if !walk(k) {
					return false
				}
			}
			return true
		}
		walk(at)
	}
}

// has reports whether there is such a node, and such a place in its environment.
func (p program) has(node, place int) bool {
	return node >= 0 && node < len(p.Nodes) && place >= 0 && place < p.sizes[node]
}

// brings returns how many values the messages of a channel bring.
func (p program) brings(c channel) int { return p.Defs[c.def].Chans[c.index].Many }

// place returns the place of a channel in the environments in which it stands.
func (p program) place(c channel) int { return p.sizes[p.makers[c.def]] + c.index }
