package flat

import (
	"cmp"
	"slices"

	"cabotage/api"
	"cabotage/scope"
)

// shape is a formed program whose nodes are gone through with their lists; the names in them are not looked at.
type shape struct {
	api.ScopeProg
	sizes []int // how large the environment of each node is
}

// shapeOf gives up for a program that is not formed.
func shapeOf(p api.ScopeProg) shape {
	sizes, e := scope.Sizes(p)
	must(e == api.OK, e)
	return shape{p, sizes}
}

// view is what a node has of the environment that it would have in a program: places, rising.
type view struct {
	list  []int // the list of the node
	taken []int // what it takes of this
}

// views returns what each node has, if main is the list of Main, and takes says what a node takes of its list. No two lists of them share memory.
func (s shape) views(main []int, takes func(at int, list []int) []int) []view {
	out := make([]view, len(s.Nodes))
	var walk func(at int, list []int)
	walk = func(at int, list []int) {
		v := view{list, takes(at, list)}
		out[at] = v
		beside, behind := s.inside(at)
		for _, k := range beside {
			walk(k, slices.Concat(v.list, s.added(at, k)))
		}
		for _, k := range behind {
			walk(k, slices.Concat(v.taken, s.added(at, k)))
		}
	}
	walk(s.Main, slices.Clone(main))
	return out
}

// inside returns the nodes right below a node: those whose lists begin with its own one, and those whose lists begin with what it takes.
func (s shape) inside(at int) (beside, behind []int) {
	n := s.Nodes[at]
	switch n.Op {
	case api.TermGo, api.TermWatch:
		return nil, n.Kids
	case api.TermDef:
		return n.Kids, bodies(s.Defs[n.N])
	}
	return n.Kids, nil
}

// bodies returns the nodes of the rules and the places of a definition.
func bodies(d api.ScopeDef) []int {
	var l []int
	for _, r := range d.Rules {
		l = append(l, r.Node)
	}
	for _, s := range d.Spots {
		l = append(l, s.Node)
	}
	return l
}

// added returns the places that the environment of a node right below another one has behind the places of that one's environment.
func (s shape) added(at, below int) []int {
	var l []int
	for n := s.sizes[at]; n < s.sizes[below]; n++ {
		l = append(l, n)
	}
	return l
}

// numbered reports whether n is one of the numbers of so many things.
func numbered(n, many int) bool { return n >= 0 && n < many }

// rising reports whether a list is some of the numbers of so many things, rising.
func rising(l []int, many int) bool {
	for i, n := range l {
		if !numbered(n, many) || i > 0 && l[i-1] >= n {
			return false
		}
	}
	return true
}

// chosen returns those things of a list that have some numbers.
func chosen[T any](l []T, numbers []int) []T {
	var out []T
	for _, n := range numbers {
		out = append(out, l[n])
	}
	return out
}

// where returns the place of x in a list that rises and has it.
func where[T cmp.Ordered](l []T, x T) int {
	i, _ := slices.BinarySearch(l, x)
	return i
}
