package scope

import (
	"cmp"
	"slices"

	"cabotage/api"
)

func (p program) inOrder() bool {
	var nodes, defs []int
	for at := range p.all() {
		nodes = append(nodes, at)
		if n, ok := p.node(at).(defining); ok {
			defs = append(defs, n.N)
		}
	}
	return counting(nodes, len(p.Nodes)) && counting(defs, len(p.Defs)) &&
		len(p.needs(p.Main, len(p.Free))) == len(p.Free) && // a free name that any node needs Main needs
		!slices.ContainsFunc(p.Defs, func(d api.ScopeDef) bool { return !tidy(d) })
}

// tidy reports whether the rules, the channels and the places of a definition are in order. Where rules come by their At, so do their channels.
func tidy(d api.ScopeDef) bool {
	byPlace := func(a, b api.ScopeRule) int { return cmp.Compare(a.At, b.At) }
	return slices.IsSortedFunc(d.Rules, byPlace) && counting(firstJoined(d), len(d.Chans)) && counting(standing(d, 0), 1+len(d.Spots))
}

// firstJoined returns the channels of a definition, in the order in which they first stand in Joins.
func firstJoined(d api.ScopeDef) []int {
	var l []int
	for _, r := range d.Rules {
		for _, j := range r.Joins {
			if !slices.Contains(l, j) {
				l = append(l, j)
			}
		}
	}
	return l
}

// standing returns a place of a definition, and all that are in it, in the order in which they stand in Defs.
func standing(d api.ScopeDef, place int) []int {
	l := []int{place}
	for i, s := range d.Spots {
		if s.In == place {
			l = append(l, standing(d, i+1)...)
		}
	}
	return l
}
