package usage_test

import (
	"math/rand"
	"slices"
	"testing"

	"cabotage/api"
)

// P5.7: exchanging the Kids of a TermPar, or of a TermIf, changes nothing of the table.
func TestExchange(t *testing.T) {
	pairs, choices := 0, 0
	programs(t, 800, func(seed int64, r *rand.Rand, p api.ScopeProg) {
		want := show(tableOf(t, p))
		for at, n := range p.Nodes {
			if len(n.Kids) != 2 {
				continue
			}
			n.Kids[0], n.Kids[1] = n.Kids[1], n.Kids[0]
			if got := show(tableOf(t, p)); got != want {
				t.Error(seed, p, at, got, want)
			}
			n.Kids[0], n.Kids[1] = n.Kids[1], n.Kids[0]
			if n.Op == api.TermPar {
				pairs++
			} else {
				choices++
			}
		}
	})
	if pairs < 500 || choices < 500 {
		t.Error("too few:", pairs, choices)
	}
}

// P5.7: with one more TermSend beside a node no count of the table is less.
func TestMore(t *testing.T) {
	greater := 0
	programs(t, 800, func(seed int64, r *rand.Rand, p api.ScopeProg) {
		if len(p.Nodes) > api.ScopeNodes-2 {
			return
		}
		before := tableOf(t, p)
		for at := range p.Nodes {
			size := judgeOf(p).size(at)
			if size == 0 {
				continue
			}
			q := p
			q.Nodes = append(slices.Clone(p.Nodes), p.Nodes[at], anySend(r, size))
			q.Nodes[at] = api.ScopeNode{Op: api.TermPar, Kids: []int{len(p.Nodes), len(p.Nodes) + 1}}
			after := tableOf(t, q)
			if !noLess(before, after) {
				t.Error(seed, p, at, show(before), show(after))
			}
			if show(before) != show(after) {
				greater++
			}
		}
	})
	if greater < 500 {
		t.Error("too few tables change:", greater)
	}
}

// noLess reports whether no count of u is less than that of t.
func noLess(t, u []api.UsageDef) bool {
	l := entries(u)
	for i, k := range entries(t) {
		if number(*k.UsageKind) > number(*l[i].UsageKind) {
			return false
		}
	}
	return true
}

// anySend returns a TermSend in an environment of some size.
func anySend(r *rand.Rand, size int) api.ScopeNode {
	n := api.ScopeNode{Op: api.TermSend, N: r.Intn(size)}
	for range r.Intn(4) {
		n.Args = append(n.Args, name(r.Intn(size)))
	}
	return n
}
