package flat_test

import (
	"maps"
	"slices"

	"cabotage/api"
	"cabotage/scope"
	"cabotage/sol"
)

// This is a second reading of the chapter: everything is asked of a node by going from it upwards.

// main stands for Main where takings are kept by nodes.
const main = -1

// link leads from a node to the one right above it.
type link struct {
	at     int  // main for Main
	behind bool // whether the node has what that one takes
	adds   int  // how many places its environment has more
}

// tree is a program with its links; where it is not one, as something is missing, doubled, in a ring or of a size that cannot be, links is nil.
type tree struct {
	api.ScopeProg
	links []link
}

func treeOf(p api.ScopeProg) tree {
	links := make([]link, len(p.Nodes))
	times := make([]int, len(p.Nodes))
	add := func(node int, l link) bool {
		if node < 0 || node >= len(links) {
			return false
		}
		times[node]++
		links[node] = l
		return times[node] == 1
	}
	fine := add(p.Main, link{at: main})
	for at, n := range p.Nodes {
		d := api.ScopeDef{}
		if n.Op == api.TermDef {
			if n.N < 0 || n.N >= len(p.Defs) {
				return tree{p, nil}
			}
			d = p.Defs[n.N]
		}
		adds := len(d.Chans) + len(d.Spots)
		for _, k := range n.Kids {
			fine = add(k, link{at, n.Op == api.TermGo || n.Op == api.TermWatch, adds}) && fine
		}
		for _, s := range d.Spots {
			fine = add(s.Node, link{at, true, adds}) && fine
		}
		for _, r := range d.Rules {
			more := 0
			for _, j := range r.Joins {
				if j < 0 || j >= len(d.Chans) || d.Chans[j].Many < 0 || d.Chans[j].Many > api.TermArgs {
					return tree{p, nil}
				}
				more += d.Chans[j].Many
			}
			fine = add(r.Node, link{at, true, adds + more}) && fine
		}
	}
	if !fine || slices.Contains(times, 0) {
		return tree{p, nil}
	}
	for at := range links {
		for range links {
			if at != main {
				at = links[at].at
			}
		}
		if at != main {
			return tree{p, nil}
		}
	}
	return tree{p, links}
}

// size is how large the environment of a node is.
func (t tree) size(at int) int {
	if l := t.links[at]; l.at != main {
		return t.size(l.at) + l.adds
	}
	return len(t.Free)
}

// list is the list of a node, if taken says what a node, or main, takes of a list.
func (t tree) list(at int, taken func(at int, list []int) []int) []int {
	l := t.links[at]
	if l.at == main {
		return slices.Clone(taken(main, nil))
	}
	list := t.list(l.at, taken)
	if l.behind {
		list = slices.Clone(taken(l.at, list))
	}
	for n := t.size(l.at); n < t.size(at); n++ {
		list = append(list, n)
	}
	return list
}

// uses calls f with each place that stands in a node, and whether it stands in what the node takes.
func uses(n api.ScopeNode, f func(place int, taken bool)) {
	var walk func(l []api.ScopeExp)
	walk = func(l []api.ScopeExp) {
		for _, e := range l {
			if e.Op == api.TermName {
				f(e.N, false)
			}
			walk(e.Kids)
		}
	}
	walk(n.Args)
	switch n.Op {
	case api.TermSend:
		f(n.N, false)
	case api.TermGo, api.TermWatch:
		f(n.N, true)
	}
}

// exchanged is a node with others in place of its places. What is far too deep is left out, so that there is something wrong with it.
func exchanged(n api.ScopeNode, other func(place int, taken bool) int) api.ScopeNode {
	var walk func(l []api.ScopeExp, deep int) []api.ScopeExp
	walk = func(l []api.ScopeExp, deep int) []api.ScopeExp {
		if deep > api.TermDepth {
			return nil
		}
		l = slices.Clone(l)
		for i := range l {
			if l[i].Op == api.TermName {
				l[i].N = other(l[i].N, false)
			}
			l[i].Kids = walk(l[i].Kids, deep+1)
		}
		return l
	}
	n.Args, n.Kids = walk(n.Args, 0), slices.Clone(n.Kids)
	switch n.Op {
	case api.TermSend:
		n.N = other(n.N, false)
	case api.TermGo, api.TermWatch:
		n.N = other(n.N, true)
	}
	return n
}

// takings are the places that nodes, and main, take.
type takings map[int]map[int]bool

func (x takings) add(at, place int) {
	if x[at] == nil {
		x[at] = map[int]bool{}
	}
	x[at][place] = true
}

func (x takings) of(at int, _ []int) []int { return slices.Sorted(maps.Keys(x[at])) }

func (x takings) count() int {
	n := 0
	for _, l := range x {
		n += len(l)
	}
	return n
}

// has reports whether x takes all that y takes.
func (x takings) has(y takings) bool {
	for at, l := range y {
		for place := range l {
			if !x[at][place] {
				return false
			}
		}
	}
	return true
}

// brought puts a place into the list of a node: all take it that are between them.
func (t tree) brought(x takings, at, place int) {
	for {
		l := t.links[at]
		switch {
		case l.at == main:
			x.add(main, place)
			return
		case place >= t.size(l.at):
			return
		case l.behind:
			x.add(l.at, place)
		}
		at = l.at
	}
}

// takes makes a node take a place of its environment.
func (t tree) takes(x takings, at, place int) {
	x.add(at, place)
	t.brought(x, at, place)
}

// least is what a program takes at least.
func (t tree) least() takings {
	x := takings{}
	for at, n := range t.Nodes {
		uses(n, func(place int, taken bool) {
			if taken {
				t.takes(x, at, place)
			}
			t.brought(x, at, place)
		})
	}
	return x
}

// laid is the flat program that takes some places, and is this program when it is opened.
func (t tree) laid(x takings) api.FlatProg {
	f := api.FlatProg{Free: slices.Clone(t.Free), Take: x.of(main, nil), Defs: copiedDefs(t.Defs), Main: t.Main}
	for at := range t.Nodes {
		list, taken := t.list(at, x.of), x.of(at, nil)
		n := exchanged(t.Nodes[at], func(place int, isTaken bool) int {
			if isTaken {
				return slices.Index(taken, place)
			}
			return slices.Index(list, place)
		})
		y := api.FlatNode{Op: n.Op, N: n.N, Args: n.Args, Kids: n.Kids}
		for _, place := range taken {
			y.Take = append(y.Take, slices.Index(list, place))
		}
		f.Nodes = append(f.Nodes, y)
	}
	return f
}

// reading is a flat program that is read: bad is whether there is an index that is none.
type reading struct {
	tree
	flat []api.FlatNode
	take []int
	bad  bool
}

// read reads a flat program of which at least the nodes make a tree.
func read(f api.FlatProg) (*reading, bool) {
	p := api.ScopeProg{Free: f.Free, Defs: f.Defs, Main: f.Main}
	for _, n := range f.Nodes {
		p.Nodes = append(p.Nodes, api.ScopeNode{Op: n.Op, N: n.N, Args: n.Args, Kids: n.Kids})
	}
	t := treeOf(p)
	return &reading{tree: t, flat: f.Nodes, take: f.Take}, t.links != nil
}

// at is what stands in a list at an index.
func (r *reading) at(l []int, i int) int {
	if i < 0 || i >= len(l) {
		r.bad = true
		return 0
	}
	return l[i]
}

// taken is what a node, or main, takes.
func (r *reading) taken(at int, list []int) []int {
	take := r.take
	if at == main {
		list = nil
		for i := range r.Free {
			list = append(list, i)
		}
	} else {
		take = r.flat[at].Take
	}
	var out []int
	last := -1
	for _, i := range take {
		r.bad = r.bad || i <= last
		last = i
		out = append(out, r.at(list, i))
	}
	return out
}

func (r *reading) listOf(at int) []int { return r.list(at, r.taken) }

func (r *reading) takenBy(at int) []int { return r.taken(at, r.listOf(at)) }

// opened is what it is when it is opened.
func (r *reading) opened() api.ScopeProg {
	p := api.ScopeProg{Free: r.Free, Defs: r.Defs, Main: r.Main}
	for at, n := range r.Nodes {
		list, taken := r.listOf(at), r.takenBy(at)
		p.Nodes = append(p.Nodes, exchanged(n, func(i int, isTaken bool) int {
			if isTaken {
				return r.at(taken, i)
			}
			return r.at(list, i)
		}))
	}
	return p
}

// takings are what it takes.
func (r *reading) takings() takings {
	x := takings{}
	for _, place := range r.taken(main, nil) {
		x.add(main, place)
	}
	for at := range r.Nodes {
		for _, place := range r.takenBy(at) {
			x.add(at, place)
		}
	}
	return x
}

// formed reports whether a flat program is formed.
func formed(f api.FlatProg) bool {
	r, fine := read(f)
	if !fine {
		return false
	}
	for _, n := range f.Nodes {
		switch n.Op {
		case api.TermDef, api.TermGo, api.TermStop, api.TermWatch:
		default:
			r.bad = r.bad || len(n.Take) > 0
		}
	}
	p := r.opened()
	return !r.bad && scope.Check(p) == api.OK
}

// heldBy are the places of the environment of a group, or of a process that waits, whose values it holds, and how large this environment is; no places if there is no such definition or node.
func (r *reading) heldByGroup(def int) ([]int, int) {
	for at, n := range r.Nodes {
		if n.Op == api.TermDef && n.N == def {
			l, size := r.takenBy(at), r.size(at)
			d := r.Defs[def]
			for range len(d.Chans) + len(d.Spots) {
				l = append(l, size)
				size++
			}
			return l, size
		}
	}
	return nil, main
}

func (r *reading) heldByWait(node int) ([]int, int) {
	if node < 0 || node >= len(r.Nodes) {
		return nil, main
	}
	return r.takenBy(node), r.size(node)
}

// filled is a flat solution that is filled, if all Envs are as long as they have to be.
func (r *reading) filled(s api.Sol) (api.Sol, bool) {
	s = copied(s)
	fine := true
	fill := func(held []api.SolVal, places []int, size int) []api.SolVal {
		if size == main || len(held) != len(places) {
			fine = false
			return nil
		}
		var env []api.SolVal
		for n := range size {
			v := integer(0)
			if i := slices.Index(places, n); i >= 0 {
				v = held[i]
			}
			env = append(env, v)
		}
		return env
	}
	for i, g := range s.Groups {
		places, size := r.heldByGroup(g.Def)
		s.Groups[i].Env = fill(g.Env, places, size)
	}
	for i, x := range s.Waits {
		places, size := r.heldByWait(x.Node)
		s.Waits[i].Env = fill(x.Env, places, size)
	}
	return s, fine
}

// flattened is the flat solution of a solution.
func (r *reading) flattened(s api.Sol) api.Sol {
	s = copied(s)
	held := func(env []api.SolVal, places []int, _ int) []api.SolVal {
		var l []api.SolVal
		for n, v := range env {
			if slices.Contains(places, n) {
				l = append(l, v)
			}
		}
		return l
	}
	for i, g := range s.Groups {
		places, size := r.heldByGroup(g.Def)
		s.Groups[i].Env = held(g.Env, places, size)
	}
	for i, x := range s.Waits {
		places, size := r.heldByWait(x.Node)
		s.Waits[i].Env = held(x.Env, places, size)
	}
	return s
}

// formedSol reports whether a flat solution of a formed flat program is formed.
func (r *reading) formedSol(s api.Sol) bool {
	u, fine := r.filled(s)
	return fine && sol.Check(r.opened(), u) == api.OK
}
