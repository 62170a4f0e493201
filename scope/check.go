package scope

import (
	"slices"

	"cabotage/api"
	"cabotage/term"
)

// refusal is what gives up: the error that is returned.
type refusal api.Errno

// must gives up with an error if something does not hold.
func must(holds bool, e api.Errno) {
	if !holds {
		panic(refusal(e))
	}
}

// attempt returns what work does, or the error with which it gave up.
func attempt[T any](work func() T) (result T, e api.Errno) {
	defer func() {
		switch r := recover().(type) {
		case nil:
		case refusal:
			e = api.Errno(r)
		default:
			e = api.ErrArg
		}
	}()
	return work(), api.OK
}

// mustBeFormed gives up for a program that is not formed. The order matters: nodes are gone through only when it is sure that this ends.
func mustBeFormed(p api.ScopeProg) program {
	q := program{p}
	must(len(p.Free) <= api.ScopeFree && len(p.Nodes) <= api.ScopeNodes && len(p.Defs) <= api.ScopeDefs, api.ErrArg)
	must(sortedNames(p.Free) && q.shaped() && q.once(), api.ErrArg)
	met := 0
	for at, size := range q.all() {
		must(q.fits(at, size), api.ErrArg)
		met++
	}
	must(met == len(p.Nodes), api.ErrArg)
	return q
}

// numbered reports whether n is one of the numbers of so many things.
func numbered(n, many int) bool { return n >= 0 && n < many }

func sortedNames(l []string) bool {
	for i, s := range l {
		if !term.Name(s) || i > 0 && l[i-1] >= s {
			return false
		}
	}
	return true
}

// shaped reports whether each node and each definition has what it has to have; environments and expressions are not looked at.
func (p program) shaped() bool {
	for at := range p.Nodes {
		if !p.has(p.node(at)) || !counted(p.Nodes[at]) {
			return false
		}
	}
	return !slices.ContainsFunc(p.Defs, func(d api.ScopeDef) bool { return !shapedDef(d) })
}

// has reports whether a node has an N as its kind has; whether that is a place of its environment is seen when the size of this is known.
func (p program) has(n node) bool {
	switch n := n.(type) {
	case plain:
		return n.N == 0
	case naming:
		return true
	case defining:
		return numbered(n.N, len(p.Defs))
	}
	return false
}

// counted reports whether a node has as many Args and Kids as a process with its Op.
func counted(n api.ScopeNode) bool {
	args, kids := len(n.Args), len(n.Kids)
	switch n.Op {
	case api.TermNil, api.TermStop:
		return args == 0 && kids == 0
	case api.TermSend:
		return args <= api.TermArgs && kids == 0
	case api.TermPar:
		return args == 0 && kids == 2
	case api.TermIf:
		return args == 1 && kids == 2
	case api.TermDef, api.TermGo, api.TermWatch:
		return args == 0 && kids == 1
	}
	return false
}

func shapedDef(d api.ScopeDef) bool {
	if max(len(d.Chans), len(d.Spots), len(d.Rules)) > api.ScopeParts {
		return false
	}
	places := 1 + len(d.Spots)
	for _, c := range d.Chans {
		if !numbered(c.At, places) || c.Many < 0 || c.Many > api.TermArgs {
			return false
		}
	}
	for i, s := range d.Spots {
		if !numbered(s.In, i+1) {
			return false
		}
	}
	joined := map[int]bool{}
	for _, r := range d.Rules {
		if !numbered(r.At, places) || !joins(d, r) {
			return false
		}
		for _, j := range r.Joins {
			joined[j] = true
		}
	}
	return len(joined) == len(d.Chans)
}

// joins reports whether a rule can have its Joins.
func joins(d api.ScopeDef, r api.ScopeRule) bool {
	if len(r.Joins) < 1 || len(r.Joins) > api.TermJoins {
		return false
	}
	for i, j := range r.Joins {
		if !numbered(j, len(d.Chans)) || d.Chans[j].At != r.At || slices.Contains(r.Joins[:i], j) {
			return false
		}
	}
	return true
}

// once reports whether each definition is that of one node, and each node stands at one place.
func (p program) once() bool {
	nodes := []int{p.Main}
	var defs []int
	for _, n := range p.Nodes {
		nodes = append(nodes, n.Kids...)
		if n.Op == api.TermDef {
			defs = append(defs, n.N)
		}
	}
	for _, d := range p.Defs {
		for _, r := range d.Rules {
			nodes = append(nodes, r.Node)
		}
		for _, s := range d.Spots {
			nodes = append(nodes, s.Node)
		}
	}
	slices.Sort(nodes)
	slices.Sort(defs)
	return counting(nodes, len(p.Nodes)) && counting(defs, len(p.Defs))
}

// counting reports whether a list is 0, 1, .. up to so many numbers.
func counting(l []int, many int) bool {
	for i, n := range l {
		if n != i {
			return false
		}
	}
	return len(l) == many
}

// fits reports whether a node's expressions are as they have to be, and all its places are of its environment.
func (p program) fits(at, size int) bool {
	for _, e := range p.Nodes[at].Args {
		if !shapedExp(e) {
			return false
		}
	}
	return !slices.ContainsFunc(p.node(at).uses(), func(n int) bool { return !numbered(n, size) })
}

func shapedExp(e api.ScopeExp) bool {
	count := 0
	for x, level := range parts(e) {
		count++
		if count > api.ScopeNodes || level > api.TermDepth || !shapedPart(x) {
			return false
		}
	}
	return true
}

// shapedPart reports whether an expression has what its kind has; its Kids are not looked at.
func shapedPart(e api.ScopeExp) bool {
	switch e.Op {
	case api.TermInt:
		return e.N >= -api.TermMost && e.N <= api.TermMost && len(e.Kids) == 0
	case api.TermName:
		return len(e.Kids) == 0
	case api.TermAdd, api.TermSub, api.TermMul, api.TermLess, api.TermSame:
		return e.N == 0 && len(e.Kids) == 2
	}
	return false
}
