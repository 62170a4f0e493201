package scope_test

import (
	"fmt"
	"math/rand"
	"slices"
	"testing"

	"cabotage/api"
	"cabotage/scope"
)

// expect asks whether a program is formed, and if it is not, that all functions say so.
func expect(t *testing.T, what any, p api.ScopeProg, ok bool) {
	t.Helper()
	if e := scope.Check(p); ok && e != api.OK || !ok && e != api.ErrArg {
		t.Errorf("%v: %d", what, e)
	}
	if formed(p) != ok {
		t.Errorf("%v: the chapter says something else", what)
	}
	if ok {
		return
	}
	for i, e := range refused(t, p) {
		if e != api.ErrArg {
			t.Errorf("%v: %d of the function %d", what, e, i)
		}
	}
}

// one returns a program of a single node, above which there can be no other one.
func one(n api.ScopeNode) api.ScopeProg {
	return api.ScopeProg{Free: []string{"a", "b"}, Nodes: []api.ScopeNode{n}}
}

// over returns a program of a node with Kids that stop. A TermDef is that of a definition with nothing in it.
func over(n api.ScopeNode) api.ScopeProg {
	p := one(n)
	for range n.Kids {
		p.Nodes = append(p.Nodes, stop())
	}
	if n.Op == api.TermDef {
		p.Defs = make([]api.ScopeDef, 1)
	}
	return p
}

// defined returns a program whose Main is a TermDef of a definition; what is in its places and rules stops.
func defined(d api.ScopeDef) api.ScopeProg {
	p := api.ScopeProg{Free: []string{"a"}, Nodes: []api.ScopeNode{node(api.TermDef, 0, 1), stop()}}
	d.Rules, d.Spots = slices.Clone(d.Rules), slices.Clone(d.Spots)
	for i := range d.Rules {
		d.Rules[i].Node = len(p.Nodes)
		p.Nodes = append(p.Nodes, stop())
	}
	for i := range d.Spots {
		d.Spots[i].Node = len(p.Nodes)
		p.Nodes = append(p.Nodes, stop())
	}
	p.Defs = []api.ScopeDef{d}
	return p
}

// P3.1: what each node has, and that it has nothing else.
func TestCheckNodes(t *testing.T) {
	type has struct {
		n          []int
		args, kids []int
	}
	none, places, few := []int{0}, []int{0, 1}, []int{0, 1, 2, 3}
	table := map[api.TermOp]has{
		api.TermNil: {none, none, none}, api.TermStop: {none, none, none},
		api.TermSend: {places, few, none}, api.TermPar: {none, none, []int{2}},
		api.TermDef: {none, none, []int{1}}, api.TermIf: {none, []int{1}, []int{2}},
		api.TermGo: {places, none, []int{1}}, api.TermWatch: {places, none, []int{1}},
	}
	for op := api.TermOp(-1); op < 11; op++ {
		for _, n := range []int{-1, 0, 1, 2, 1 << 62} {
			for i := range 20 {
				args, kids := i%5, i/5
				x := api.ScopeNode{Op: op, N: n, Args: slices.Repeat([]api.ScopeExp{name(1)}, args)}
				for k := range kids {
					x.Kids = append(x.Kids, k+1)
				}
				h := table[op]
				ok := slices.Contains(h.n, n) && slices.Contains(h.args, args) && slices.Contains(h.kids, kids)
				expect(t, fmt.Sprint(op, n, args, kids), over(x), ok)
			}
		}
	}
	expect(t, "a definition that there is not", one(node(api.TermDef, 0, 0)), false)
}

// P3.1
func TestCheckExpressions(t *testing.T) {
	with := func(e api.ScopeExp) api.ScopeProg {
		return one(api.ScopeNode{Op: api.TermSend, Args: []api.ScopeExp{num(0), e}})
	}
	for op := api.TermSign(-1); op < 10; op++ {
		for _, n := range []int{0, 1, 2, -1, 1000000000, -1000000000, 1000000001, -1000000001, 1 << 62, -1 << 63} {
			for kids := range 4 {
				e := api.ScopeExp{Op: op, N: n, Kids: slices.Repeat([]api.ScopeExp{num(7)}, kids)}
				ok := op == api.TermInt && n >= -1000000000 && n <= 1000000000 && kids == 0
				ok = ok || op == api.TermName && (n == 0 || n == 1) && kids == 0
				ok = ok || op >= api.TermAdd && op <= api.TermSame && n == 0 && kids == 2
				expect(t, e, with(e), ok)
				expect(t, e, with(sum(num(1), sum(e, name(0)))), ok)
				test := over(node(api.TermIf, 0, 1, 2))
				test.Nodes[0].Args = []api.ScopeExp{e}
				expect(t, e, test, ok)
			}
		}
	}
	deep := num(1)
	for depth := 1; depth < 15; depth++ {
		expect(t, depth, with(deep), depth <= 12)
		deep = sum(name(0), deep)
	}
	for _, n := range []int{1, 57, 59, 61, 63, 127} {
		expect(t, n, with(broad(n)), n <= 60)
	}
	all := api.ScopeNode{Op: api.TermSend, Args: []api.ScopeExp{broad(59), broad(59), broad(59)}}
	expect(t, "each alone is not too large", one(all), true)
}

// broad returns an expression of just so many nodes (an odd number), which is not deep.
func broad(nodes int) api.ScopeExp {
	if nodes < 3 {
		return name(1)
	}
	left := (nodes - 1) / 2
	if left%2 == 0 {
		left--
	}
	return sum(broad(left), broad(nodes-1-left))
}

// P3.1
func TestCheckFree(t *testing.T) {
	some := []string{"a", "aa", "ab", "b", "c", "d", "e", "f", "g", "h", "i", "j", "k"}
	for n := range len(some) + 1 {
		expect(t, n, api.ScopeProg{Free: some[:n], Nodes: []api.ScopeNode{stop()}}, n <= 12)
	}
	for _, l := range [][]string{{"b", "a"}, {"a", "a"}, {"aa", "a"}, {"a", "b", "b"}, {"a", "c", "b"}, {""}, {"go"}, {"a", "then"}, {"abcdefghi"}, {"a1"}, {"A"}, {"a "}, {"é"}} {
		expect(t, l, api.ScopeProg{Free: l, Nodes: []api.ScopeNode{stop()}}, false)
	}
	expect(t, "long", api.ScopeProg{Free: []string{"abcdefgh", "goo", "z"}, Nodes: []api.ScopeNode{stop()}}, true)
}

// chain returns a program of so many nodes, each the Kid of the one before it.
func chain(n int) api.ScopeProg {
	p := api.ScopeProg{Free: []string{"a"}}
	for i := 1; i < n; i++ {
		p.Nodes = append(p.Nodes, node(api.TermGo, 0, i))
	}
	p.Nodes = append(p.Nodes, stop())
	return p
}

// nested returns a program of so many definitions, each in the Kid of the one before it.
func nested(n int) api.ScopeProg {
	p := chain(n + 1)
	for i := range n {
		p.Nodes[i].Op, p.Nodes[i].N = api.TermDef, i
	}
	p.Defs = make([]api.ScopeDef, n)
	return p
}

// P3.1: which numbers there are.
func TestCheckLimits(t *testing.T) {
	for _, n := range []int{1, 12, 13, 59, 60, 61, 100} {
		expect(t, n, chain(n), n <= 60)
	}
	for _, n := range []int{0, 1, 11, 12, 13, 40} {
		expect(t, n, nested(n), n <= 12)
	}
	expect(t, "nothing", api.ScopeProg{}, false)
	expect(t, "no nodes", api.ScopeProg{Free: []string{"a"}, Nodes: []api.ScopeNode{}}, false)
	for _, n := range []int{1, 29, 30, 31} {
		var channels, rules, spots api.ScopeDef
		for i := range n {
			channels.Chans = append(channels.Chans, api.ScopeChan{Many: i % 4})
			if i%3 == 0 {
				channels.Rules = append(channels.Rules, api.ScopeRule{})
			}
			r := &channels.Rules[i/3]
			r.Joins = append(r.Joins, i)
			rules.Rules = append(rules.Rules, api.ScopeRule{Joins: []int{0}})
			spots.Spots = append(spots.Spots, api.ScopeSpot{In: i / 2})
		}
		rules.Chans = []api.ScopeChan{{}}
		for i, d := range []api.ScopeDef{channels, rules, spots} {
			expect(t, fmt.Sprint(i, n), defined(d), n <= 30)
		}
	}
}

// P3.1: channels, places and rules of a definition.
func TestCheckDefinitions(t *testing.T) {
	spots := func(in ...int) (l []api.ScopeSpot) {
		for _, n := range in {
			l = append(l, api.ScopeSpot{In: n})
		}
		return l
	}
	rule := func(at int, joins ...int) api.ScopeRule { return api.ScopeRule{At: at, Joins: joins} }
	type def struct { // with fields that need no keys
		Chans []api.ScopeChan
		Spots []api.ScopeSpot
		Rules []api.ScopeRule
	}
	ch := func(at, many int) api.ScopeChan { return api.ScopeChan{At: at, Many: many} }
	type channels = []api.ScopeChan
	type rules = []api.ScopeRule
	four := channels{{}, {}, {}, {}}
	for i, d := range []def{
		{}, {Spots: spots(0)}, {Spots: spots(0, 0, 0)}, {Spots: spots(0, 1, 2)}, {Spots: spots(0, 1, 1, 0, 3)},
		{channels{ch(0, 0)}, nil, rules{rule(0, 0)}}, {channels{ch(0, 3)}, nil, rules{rule(0, 0)}},
		{channels{ch(1, 1)}, spots(0), rules{rule(1, 0)}}, {channels{ch(2, 1), ch(0, 0)}, spots(0, 0), rules{rule(2, 0), rule(0, 1)}},
		{four, nil, rules{rule(0, 0, 1, 2), rule(0, 3, 0)}}, {four, nil, rules{rule(0, 3, 1, 2), rule(0, 0)}}, {four[:1], nil, rules{rule(0, 0), rule(0, 0), rule(0, 0)}},
	} {
		expect(t, i, defined(api.ScopeDef(d)), true)
	}
	for i, d := range []def{
		{Spots: spots(1)}, {Spots: spots(-1)}, {Spots: spots(0, 2)}, {Spots: spots(0, 0, 3)}, {Spots: spots(2, 0)}, {Spots: spots(1 << 62)},
		{Chans: four[:1]}, {four[:2], nil, rules{rule(0, 0)}}, {four[:3], nil, rules{rule(0, 0, 2)}}, {nil, nil, rules{rule(0)}}, {four[:1], nil, rules{rule(0, 0), rule(0)}},
		{channels{ch(0, 4)}, nil, rules{rule(0, 0)}}, {channels{ch(0, -1)}, nil, rules{rule(0, 0)}},
		{channels{ch(1, 0)}, nil, rules{rule(1, 0)}}, {channels{ch(-1, 0)}, nil, rules{rule(-1, 0)}}, {channels{ch(2, 0)}, spots(0), rules{rule(2, 0)}},
		{channels{ch(1, 0)}, spots(0), rules{rule(0, 0)}}, {four[:1], spots(0), rules{rule(1, 0)}}, {channels{ch(0, 0), ch(1, 0)}, spots(0), rules{rule(0, 0, 1)}}, {channels{ch(0, 0), ch(1, 0)}, spots(0), rules{rule(0, 0), rule(1, 0, 1)}},
		{four, nil, rules{rule(0, 0, 1, 2, 3)}}, {four[:1], nil, rules{rule(0, 0, 0)}}, {four[:2], nil, rules{rule(0, 0, 1, 0)}},
		{four[:1], nil, rules{rule(0, 1)}}, {four[:1], nil, rules{rule(0, 0), rule(0, -1)}}, {four[:1], nil, rules{rule(0, 0, 1<<62)}},
	} {
		expect(t, i, defined(api.ScopeDef(d)), false)
	}
}

// P3.1: each node stands at one place, and below Main; each definition is that of one node.
func TestCheckBelow(t *testing.T) {
	for i, change := range []func(p *api.ScopeProg){
		func(p *api.ScopeProg) { p.Main = 1 },
		func(p *api.ScopeProg) { p.Main = -1 },
		func(p *api.ScopeProg) { p.Main = 8 },
		func(p *api.ScopeProg) { p.Nodes[4].Kids[0] = 6 },
		func(p *api.ScopeProg) { p.Nodes[4].Kids[0] = 0 },
		func(p *api.ScopeProg) { p.Nodes[4].Kids[0] = -1 },
		func(p *api.ScopeProg) { p.Nodes[4].Kids[0] = 8 },
		func(p *api.ScopeProg) { p.Nodes[4].Kids[0] = 4 },
		func(p *api.ScopeProg) { p.Nodes[0].Kids[0], p.Nodes[6].Kids[0] = 7, 4 },
		func(p *api.ScopeProg) { p.Nodes[2].Kids[0], p.Defs[0].Spots[0].Node = 2, 3 },
		func(p *api.ScopeProg) { p.Nodes[0].Kids[0], p.Main = 0, 4 },
		func(p *api.ScopeProg) { p.Defs[0].Rules[0].Node, p.Main = 0, 1 },
		func(p *api.ScopeProg) { p.Defs[0].Rules[0].Node = 2 },
		func(p *api.ScopeProg) { p.Defs[0].Rules[0].Node = 8 },
		func(p *api.ScopeProg) { p.Defs[0].Rules[0].Node = -1 },
		func(p *api.ScopeProg) { p.Defs[0].Spots[0].Node = 5 },
		func(p *api.ScopeProg) { p.Defs[0].Spots[0].Node = 8 },
		func(p *api.ScopeProg) { p.Defs[0].Spots[0].Node = -1 },
		func(p *api.ScopeProg) { p.Nodes = append(p.Nodes, stop()) },
		func(p *api.ScopeProg) { p.Nodes = append(p.Nodes, node(api.TermGo, 0, 8)) },
		func(p *api.ScopeProg) { p.Nodes = p.Nodes[:7] },
		func(p *api.ScopeProg) { p.Defs = append(p.Defs, api.ScopeDef{}) },
		func(p *api.ScopeProg) { p.Defs = nil },
		func(p *api.ScopeProg) { p.Nodes[0].N = 1 },
		func(p *api.ScopeProg) { p.Nodes[6].Op, p.Nodes[6].N = api.TermDef, 0 },
		func(p *api.ScopeProg) {
			p.Nodes[6].Op, p.Nodes[6].N, p.Defs = api.TermDef, 0, append(p.Defs, api.ScopeDef{})
		},
		func(p *api.ScopeProg) {
			p.Nodes[0].N, p.Defs = 1, append(p.Defs, api.ScopeDef{})
		},
	} {
		p := program()
		change(&p)
		expect(t, i, p, false)
	}
	expect(t, "T", program(), true)
	p := program()
	p.Nodes[6].Op, p.Nodes[6].N, p.Defs = api.TermDef, 1, append(p.Defs, api.ScopeDef{})
	expect(t, "two definitions", p, true)
}

// P3.1: each place is in the environment of its node.
func TestCheckPlaces(t *testing.T) {
	sizes := []int{3, 7, 6, 6, 6, 6, 6, 6}
	for at, size := range sizes {
		for n := -2; n < 10; n++ {
			p := program()
			switch p.Nodes[at].Op {
			case api.TermSend:
				p.Nodes[at].Args = []api.ScopeExp{num(1), sum(num(1), sum(name(n), num(1)))}
				expect(t, fmt.Sprint(at, n), p, n >= 0 && n < size)
				fallthrough
			case api.TermGo, api.TermWatch:
				p = program()
				p.Nodes[at].N = n
				expect(t, fmt.Sprint(at, n), p, n >= 0 && n < size)
			}
		}
	}
	expect(t, "no free name", api.ScopeProg{Nodes: []api.ScopeNode{node(api.TermSend, 0)}}, false)
}

// changed returns a program in which one number, or one length, is another one.
func changed(r *rand.Rand, p api.ScopeProg) api.ScopeProg {
	p = copied(p)
	var numbers []*int
	for i := range p.Nodes {
		n := &p.Nodes[i]
		numbers = append(numbers, &n.N, (*int)(&n.Op))
		for k := range n.Kids {
			numbers = append(numbers, &n.Kids[k])
		}
		for k := range n.Args {
			numbers = append(numbers, &n.Args[k].N, (*int)(&n.Args[k].Op))
		}
	}
	for i := range p.Defs {
		d := &p.Defs[i]
		for k := range d.Chans {
			numbers = append(numbers, &d.Chans[k].At, &d.Chans[k].Many)
		}
		for k := range d.Spots {
			numbers = append(numbers, &d.Spots[k].In, &d.Spots[k].Node)
		}
		for k := range d.Rules {
			numbers = append(numbers, &d.Rules[k].At, &d.Rules[k].Node, &d.Rules[k].Joins[0])
		}
	}
	for range 1 + r.Intn(2) {
		n := numbers[r.Intn(len(numbers))]
		*n += []int{-2, -1, 1, 2, 5}[r.Intn(5)]
	}
	return p
}

// P3.1: whatever is changed in a program, it is formed if the chapter says so.
func TestCheckChanged(t *testing.T) {
	is, not := 0, 0
	each(t, func(r *rand.Rand, p api.ScopeProg) {
		expect(t, p, p, true)
		q := shuffled(r, p)
		expect(t, q, q, true)
		for range 4 {
			q := changed(r, p)
			ok := formed(q)
			expect(t, q, q, ok)
			if ok {
				is++
			} else {
				not++
			}
		}
	})
	if is < 300 || not < 300 {
		t.Error("too few:", is, not)
	}
}

// P3.1, P0.12: expressions that hold themselves, and lists that are far too long.
func TestCheckEndless(t *testing.T) {
	e := api.ScopeExp{Op: api.TermAdd, Kids: make([]api.ScopeExp, 2)}
	e.Kids[0], e.Kids[1] = e, e
	long := make([]api.ScopeExp, 1<<20)
	for i, l := range [][]api.ScopeExp{{e}, {num(1), e}, {{Op: api.TermInt, Kids: e.Kids}}, {{Op: api.TermAdd, Kids: long}}, long} {
		p := one(api.ScopeNode{Op: api.TermSend, Args: l})
		for k, e := range refused(t, p) {
			if e != api.ErrArg {
				t.Error(i, k, e)
			}
		}
	}
	many := api.ScopeProg{Free: make([]string, 1<<20), Nodes: make([]api.ScopeNode, 1<<20), Defs: make([]api.ScopeDef, 1<<20)}
	if e := scope.Check(many); e != api.ErrArg {
		t.Error(e)
	}
}

// R3: nil and empty lists are the same.
func TestCheckEmpty(t *testing.T) {
	p := program()
	p.Nodes[7] = api.ScopeNode{Op: api.TermNil, Args: []api.ScopeExp{}, Kids: []int{}}
	p.Nodes[3].Args[0].Kids = []api.ScopeExp{}
	expect(t, "T", p, true)
	expect(t, "a definition", defined(api.ScopeDef{Chans: []api.ScopeChan{}, Spots: []api.ScopeSpot{}, Rules: []api.ScopeRule{}}), true)
	expect(t, "a stop", api.ScopeProg{Free: []string{}, Nodes: []api.ScopeNode{stop()}, Defs: []api.ScopeDef{}}, true)
}
