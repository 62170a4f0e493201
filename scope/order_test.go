package scope_test

import (
	"math/rand"
	"testing"

	"cabotage/api"
	"cabotage/scope"
)

func inOrder(t *testing.T, what any, p api.ScopeProg, want bool) {
	t.Helper()
	if is, e := scope.InOrder(p); is != want || e != api.OK {
		t.Error(what, is, e)
	}
}

// P3.3: T, with one thing out of order.
func TestOrderOfExample(t *testing.T) {
	inOrder(t, "T", program(), true)
	for i, change := range []func(p *api.ScopeProg){
		// nodes
		func(p *api.ScopeProg) {
			p.Nodes[5], p.Nodes[6], p.Nodes[4].Kids = p.Nodes[6], p.Nodes[5], []int{6, 5}
		},
		func(p *api.ScopeProg) { // the place before the rule
			p.Nodes[1], p.Nodes[2], p.Nodes[3] = p.Nodes[2], p.Nodes[3], p.Nodes[1]
			p.Nodes[1].Kids, p.Defs[0].Spots[0].Node, p.Defs[0].Rules[0].Node = []int{2}, 1, 3
		},
		func(p *api.ScopeProg) { // Main is not 0
			p.Nodes[0], p.Nodes[7] = p.Nodes[7], p.Nodes[0]
			p.Main, p.Nodes[6].Kids = 7, []int{0}
		},
		// free names
		func(p *api.ScopeProg) { p.Nodes[2].N = 0 },
		func(p *api.ScopeProg) { p.Nodes[1].N = 6 },
		func(p *api.ScopeProg) { p.Nodes[1].Args[1] = num(0) },
		// channels
		func(p *api.ScopeProg) { p.Defs[0].Rules[0].Joins = []int{1, 0} },
	} {
		p := program()
		change(&p)
		inOrder(t, i, p, false)
	}
	p := program()
	p.Nodes[1].Args[0] = name(2)
	inOrder(t, "a value that is not needed", p, true)
	p.Nodes[1].Args = []api.ScopeExp{sum(num(1), sum(num(1), name(0)))}
	inOrder(t, "a free name within an expression", p, true)
}

// P3.3: channels come by their At and then by their Joins, rules by their At, places as they stand in Defs.
func TestOrderOfDefinitions(t *testing.T) {
	type channels = []api.ScopeChan
	type spots = []api.ScopeSpot
	type rules = []api.ScopeRule
	rule := func(at int, joins ...int) api.ScopeRule { return api.ScopeRule{At: at, Joins: joins} }
	at := func(n int) api.ScopeChan { return api.ScopeChan{At: n} }
	in := func(n int) api.ScopeSpot { return api.ScopeSpot{In: n} }
	for i, x := range []struct {
		channels channels
		spots    spots
		rules    rules
		want     bool
	}{
		{nil, nil, nil, true},
		{channels{at(0), at(0)}, nil, rules{rule(0, 0), rule(0, 1)}, true},
		{channels{at(0), at(0)}, nil, rules{rule(0, 1), rule(0, 0)}, false},
		{channels{at(0), at(0), at(0)}, nil, rules{rule(0, 0), rule(0, 0, 1), rule(0, 2, 0)}, true},
		{channels{at(0), at(0), at(0)}, nil, rules{rule(0, 0), rule(0, 2, 0), rule(0, 1)}, false},
		{channels{at(0), at(0), at(0)}, nil, rules{rule(0, 0, 2, 1)}, false},
		{channels{at(0), at(1)}, spots{in(0)}, rules{rule(0, 0), rule(1, 1)}, true},
		{channels{at(1), at(0)}, spots{in(0)}, rules{rule(0, 1), rule(1, 0)}, false},
		{channels{at(1), at(0)}, spots{in(0)}, rules{rule(1, 0), rule(0, 1)}, false},
		{channels{at(0), at(1)}, spots{in(0)}, rules{rule(1, 1), rule(0, 0)}, false},
		{channels{at(0), at(1), at(2)}, spots{in(0), in(1)}, rules{rule(0, 0), rule(1, 1), rule(2, 2)}, true},
		{channels{at(2)}, spots{in(0), in(0)}, rules{rule(2, 0), rule(2, 0)}, true},
		{nil, spots{in(0), in(0), in(0)}, nil, true},
		{nil, spots{in(0), in(1), in(2)}, nil, true},
		{nil, spots{in(0), in(1), in(0)}, nil, true},
		{nil, spots{in(0), in(0), in(1)}, nil, false},
		{nil, spots{in(0), in(1), in(1), in(0), in(4), in(5), in(0)}, nil, true},
		{nil, spots{in(0), in(1), in(1), in(2)}, nil, false},
		{nil, spots{in(0), in(0), in(0), in(1)}, nil, false},
	} {
		p := api.ScopeProg{Nodes: []api.ScopeNode{{Op: api.TermDef}}}
		for k := range x.rules {
			x.rules[k].Node = len(p.Nodes)
			p.Nodes = append(p.Nodes, stop())
		}
		for k := range x.spots {
			x.spots[k].Node = len(p.Nodes)
			p.Nodes = append(p.Nodes, stop())
		}
		p.Nodes[0].Kids = []int{len(p.Nodes)}
		p.Nodes = append(p.Nodes, stop())
		p.Defs = []api.ScopeDef{{Chans: x.channels, Spots: x.spots, Rules: x.rules}}
		inOrder(t, i, p, x.want)
	}
}

// P3.3: nodes, and the definitions that come in the order of their nodes.
func TestOrderOfNodes(t *testing.T) {
	p := nested(3)
	p.Free = nil
	inOrder(t, "definitions", p, true)
	p.Nodes[0].N, p.Nodes[1].N = 1, 0
	inOrder(t, "definitions exchanged", p, false)
	p = nested(3)
	inOrder(t, "a free name that is not needed", p, false)
	inOrder(t, "more nodes than a process has", chain(60), true)
	p = chain(60)
	for i := range p.Nodes[:59] {
		p.Nodes[59-i] = node(api.TermGo, 0, 58-i)
	}
	p.Nodes[0], p.Main = stop(), 59
	inOrder(t, "the other way round", p, false)
	two := api.ScopeProg{Free: []string{"a", "b"}, Nodes: []api.ScopeNode{node(api.TermPar, 0, 1, 2), node(api.TermSend, 1), node(api.TermSend, 0)}}
	inOrder(t, "free names in any order", two, true)
	six := defined(api.ScopeDef{Chans: make([]api.ScopeChan, 1), Rules: make([]api.ScopeRule, 6)})
	six.Free = nil
	for i := range six.Defs[0].Rules {
		six.Defs[0].Rules[i] = api.ScopeRule{Joins: []int{0}, Node: i + 1}
	}
	six.Nodes[0].Kids = []int{7}
	inOrder(t, "more rules than a process has", six, true)
}

// P3.3, P3.5: a program is in order just if it is that of the process for it.
func TestOrderOfAny(t *testing.T) {
	is, not := 0, 0
	each(t, func(r *rand.Rand, p api.ScopeProg) {
		inOrder(t, p, p, true)
		for range 5 {
			q := shuffled(r, p)
			u, e := scope.Term(q)
			if e != api.OK {
				continue
			}
			own, e := scope.Bind(u)
			if e != api.OK {
				t.Error(q, e)
			}
			if same(own, q) {
				is++
			} else {
				not++
			}
			inOrder(t, q, q, same(own, q))
		}
	})
	if is < 300 || not < 300 {
		t.Error("too few:", is, not)
	}
}
