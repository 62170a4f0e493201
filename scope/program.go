package scope

import (
	"iter"
	"slices"

	"cabotage/api"
)

// program is one of which the nodes can be gone through: where something has the number of a node or of a definition, there is one.
type program struct{ api.ScopeProg }

// node is a node, told apart by what its N is.
type node interface {
	uses() []int // the places of its environment that stand in it
}

type plain struct{ api.ScopeNode }

// naming is a node whose N is a place in its environment.
type naming struct{ api.ScopeNode }

// defining is a node whose N is a definition.
type defining struct{ api.ScopeNode }

func (n plain) uses() []int { return named(n.Args) }

func (n naming) uses() []int { return append(named(n.Args), n.N) }

func (n defining) uses() []int { return nil }

func (p program) node(at int) node {
	n := p.Nodes[at]
	switch n.Op {
	case api.TermSend, api.TermGo, api.TermWatch:
		return naming{n}
	case api.TermDef:
		return defining{n}
	}
	return plain{n}
}

// named returns the places that stand in some expressions.
func named(l []api.ScopeExp) []int {
	var places []int
	for _, e := range l {
		for x := range parts(e) {
			if x.Op == api.TermName {
				places = append(places, x.N)
			}
		}
	}
	return places
}

// parts goes through an expression, and all below it, each before its Kids; with each comes its level, 1 for the expression itself. A loop can leave a list that holds itself, as nothing is looked at before it comes.
func parts(e api.ScopeExp) iter.Seq2[api.ScopeExp, int] {
	return func(yield func(api.ScopeExp, int) bool) {
		var walk func(e api.ScopeExp, level int) bool
		walk = func(e api.ScopeExp, level int) bool {
			if !yield(e, level) {
				return false
			}
			for _, k := range e.Kids {
				if !walk(k, level+1) {
					return false
				}
			}
			return true
		}
		walk(e, 1)
	}
}

// inner is a node right below another one, and the size of its environment.
type inner struct{ at, size int }

// inside returns the nodes right below a node, in order.
func (p program) inside(at, size int) []inner {
	var l []inner
	if n, ok := p.node(at).(defining); ok {
		d := p.Defs[n.N]
		size += len(d.Chans) + len(d.Spots)
		for _, r := range d.Rules {
			l = append(l, inner{r.Node, size + brought(d, r)})
		}
		for _, s := range d.Spots {
			l = append(l, inner{s.Node, size})
		}
	}
	for _, k := range p.Nodes[at].Kids {
		l = append(l, inner{k, size})
	}
	return l
}

// brought returns how many values the messages bring that a rule takes.
func brought(d api.ScopeDef, r api.ScopeRule) int {
	n := 0
	for _, j := range r.Joins {
		n += d.Chans[j].Many
	}
	return n
}

// from goes through a node and all below it, in order; with each comes the size of its environment.
func (p program) from(at, size int) iter.Seq2[int, int] {
	return func(yield func(int, int) bool) {
		var walk func(at, size int) bool
		walk = func(at, size int) bool {
			if !yield(at, size) {
				return false
			}
			for _, k := range p.inside(at, size) {
				if !walk(k.at, k.size) {
					return false
				}
			}
			return true
		}
		walk(at, size)
	}
}

// all goes through all nodes.
func (p program) all() iter.Seq2[int, int] { return p.from(p.Main, len(p.Free)) }

func (p program) sizes() []int {
	out := make([]int, len(p.Nodes))
	for at, size := range p.all() {
		out[at] = size
	}
	return out
}

// needs returns what a node needs of its environment.
func (p program) needs(at, size int) []int {
	var l []int
	for k := range p.from(at, size) {
		for _, n := range p.node(k).uses() {
			if n < size {
				l = append(l, n)
			}
		}
	}
	slices.Sort(l)
	return slices.Compact(l)
}

// below returns the nodes below a node.
func (p program) below(at, size int) []int {
	var l []int
	for k := range p.from(at, size) {
		l = append(l, k)
	}
	slices.Sort(l)
	return l
}
