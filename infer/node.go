package infer

import (
	"iter"

	"cabotage/api"
)

// node is a type. Types that have become equal are one node, to which the others lead.
type node struct {
	kind
	to *node
}

// kind is what a type is.
type kind interface {
	kids() []*node
	canBe(k kind) bool // whether it can be equal to a type of such a kind, if their Kids can
}

type integer struct{}

type place struct{}

// channel is the kind of channels whose messages bring values of some types.
type channel struct{ brings []*node }

// fixed is the kind of a variable that is equal to itself alone.
type fixed struct{ number int }

// variable is the kind of what can become any type.
type variable struct{}

func (integer) kids() []*node   { return nil }
func (place) kids() []*node     { return nil }
func (c channel) kids() []*node { return c.brings }
func (fixed) kids() []*node     { return nil }
func (variable) kids() []*node  { return nil }

func (integer) canBe(k kind) bool {
	_, ok := k.(integer)
	return ok
}

func (place) canBe(k kind) bool {
	_, ok := k.(place)
	return ok
}

func (c channel) canBe(k kind) bool {
	d, ok := k.(channel)
	return ok && len(c.brings) == len(d.brings)
}

func (f fixed) canBe(k kind) bool {
	g, ok := k.(fixed)
	return ok && f == g
}

func (variable) canBe(kind) bool { return true }

func newInteger() *node { return &node{kind: integer{}} }

func newPlace() *node { return &node{kind: place{}} }

func newChannel(brings []*node) *node { return &node{kind: channel{brings}} }

func newFixed(number int) *node { return &node{kind: fixed{number}} }

func newVariable() *node { return &node{kind: variable{}} }

func newVariables(many int) []*node {
	var l []*node
	for range many {
		l = append(l, newVariable())
	}
	return l
}

// now returns the node that a node has become.
func (n *node) now() *node {
	if n.to == nil {
		return n
	}
	n.to = n.to.now()
	return n.to
}

// below goes through a type and all that stands in it, each node once: types can be far greater than their nodes are many.
func (n *node) below() iter.Seq[*node] {
	return func(yield func(*node) bool) {
		met := set{}
		var walk func(n *node) bool
		walk = func(n *node) bool {
			n = n.now()
			if met[n] {
				return true
			}
			met[n] = true
			if !yield(n) {
				return false
			}
			for _, k := range n.kids() {
				if !walk(k) {
					return false
				}
			}
			return true
		}
		walk(n)
	}
}

// equate makes two types equal, or gives up.
func equate(a, b *node) {
	merge(a, b)
	mustEnd(a)
}

// merge makes one node of two, then of their Kids; so it ends even if a type comes to be within itself.
func merge(a, b *node) {
	a, b = a.now(), b.now()
	if a == b {
		return
	}
	if !a.canBe(b.kind) {
		a, b = b, a
	}
	must(a.canBe(b.kind), api.ErrRule)
	a.to = b
	others := b.kids()
	for i, k := range a.kids() {
		merge(k, others[i])
	}
}

// mustEnd gives up for a type that is within itself.
func mustEnd(n *node) {
	around := map[*node]bool{} // of each node that was met, whether it is around the one that is looked at
	var look func(n *node)
	look = func(n *node) {
		n = n.now()
		inside, met := around[n]
		must(!inside, api.ErrRule)
		if met {
			return
		}
		around[n] = true
		for _, k := range n.kids() {
			look(k)
		}
		around[n] = false
	}
	look(n)
}

// set is a set of nodes.
type set map[*node]bool

// variables returns those that stand in some types.
func variables(l ...*node) set {
	out := set{}
	for _, n := range l {
		for k := range n.below() {
			if _, ok := k.kind.(variable); ok {
				out[k] = true
			}
		}
	}
	return out
}
