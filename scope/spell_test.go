package scope_test

import (
	"math/rand"
	"slices"

	"cabotage/api"
)

// speller writes a program that is in order as a process: what is added to environments gets the names that name returns.
type speller struct {
	p     api.ScopeProg
	facts facts
	// name returns a name for a place that is added to an environment, for a node; own are those of the places that were added with it.
	name func(env, own []string, at int) string
	// mix lays rules and places beside each other, each of them in order.
	mix func(rules, places []api.TermClause) []api.TermClause
}

func (s speller) process() api.Term { return s.node(s.p.Main, s.p.Free) }

// more returns an environment with so many names more, for a node and all below it.
func (s speller) more(env []string, many, at int) []string {
	var own []string
	for range many {
		own = append(own, s.name(env, own, at))
	}
	return slices.Concat(env, own)
}

func (s speller) exp(e api.ScopeExp, env []string) api.TermExp {
	if e.Op == api.TermName {
		return api.TermExp{Op: e.Op, Text: env[e.N]}
	}
	x := api.TermExp{Op: e.Op, N: e.N}
	for _, k := range e.Kids {
		x.Kids = append(x.Kids, s.exp(k, env))
	}
	return x
}

func (s speller) node(at int, env []string) api.Term {
	n := s.p.Nodes[at]
	t := api.Term{Op: n.Op}
	switch n.Op {
	case api.TermSend, api.TermGo, api.TermWatch:
		t.Text = env[n.N]
	case api.TermDef:
		d := s.p.Defs[n.N]
		env = s.more(env, len(d.Chans)+len(d.Spots), at)
		rules, places := map[int][]api.TermClause{}, map[int]api.TermClause{}
		own := env[len(env)-len(d.Chans)-len(d.Spots):]
		for _, r := range d.Rules {
			rules[r.At] = append(rules[r.At], s.rule(d, r, env, own))
		}
		for i, x := range d.Spots {
			places[i+1] = api.TermClause{Form: api.TermPlace, Text: own[len(d.Chans)+i], Kids: []api.Term{s.node(x.Node, env)}}
		}
		var defs func(place int) []api.TermClause
		defs = func(place int) []api.TermClause {
			var l []api.TermClause
			for i, x := range d.Spots {
				if x.In == place {
					c := places[i+1]
					c.Defs = defs(i + 1)
					l = append(l, c)
				}
			}
			return s.mix(rules[place], l)
		}
		t.Defs = defs(0)
	}
	for _, e := range n.Args {
		t.Args = append(t.Args, s.exp(e, env))
	}
	for _, k := range n.Kids {
		t.Kids = append(t.Kids, s.node(k, env))
	}
	return t
}

func (s speller) rule(d api.ScopeDef, r api.ScopeRule, env, own []string) api.TermClause {
	many := 0
	for _, j := range r.Joins {
		many += d.Chans[j].Many
	}
	in := s.more(env, many, r.Node)
	values := in[len(env):]
	c := api.TermClause{Form: api.TermRule, Kids: []api.Term{s.node(r.Node, in)}}
	for _, j := range r.Joins {
		c.Joins = append(c.Joins, api.TermMsg{Text: own[j], Names: values[:d.Chans[j].Many]})
		values = values[d.Chans[j].Many:]
	}
	return c
}

func apart(rules, places []api.TermClause) []api.TermClause { return slices.Concat(rules, places) }

// spelt returns a process with a program that is in order: names are bound again wherever the ones around are not needed any more, and rules and places are mixed.
func spelt(r *rand.Rand, p api.ScopeProg) api.Term {
	f := factsOf(p)
	return speller{p, f, func(env, own []string, at int) string {
		taken := slices.Clone(own)
		for _, n := range f.needs[at] {
			if n < len(env) {
				taken = append(taken, env[n])
			}
		}
		for {
			s := string(rune('a' + r.Intn(26)))
			if k := r.Intn(20); k < 10 {
				s = string(rune('a' + k/2))
			} else if len(env) > 0 && k < 16 {
				s = env[r.Intn(len(env))]
			}
			if len(taken) > 20 {
				s += string(rune('a' + r.Intn(26)))
			}
			if !slices.Contains(taken, s) && !slices.Contains([]string{"go", "if", "in"}, s) {
				return s
			}
		}
	}, func(rules, places []api.TermClause) []api.TermClause {
		var l []api.TermClause
		for len(rules) > 0 && len(places) > 0 {
			from := &rules
			if r.Intn(2) == 0 {
				from = &places
			}
			l = append(l, (*from)[0])
			*from = (*from)[1:]
		}
		return slices.Concat(l, rules, places)
	}}.process()
}

// strings of letters by their length, and sorted with the same length, up to two letters.
func letters() []string {
	var l []string
	for a := 'a'; a <= 'z'; a++ {
		l = append(l, string(a))
	}
	for a := 'a'; a <= 'z'; a++ {
		for b := 'a'; b <= 'z'; b++ {
			l = append(l, string(a)+string(b))
		}
	}
	return l
}

// chosen returns the process for a program whose nodes can have any numbers: the names are chosen first, node by node in order, and stand in a list for each node.
func chosen(p api.ScopeProg) api.Term {
	var left []string
	for _, s := range letters() {
		if !slices.Contains(p.Free, s) && !slices.Contains([]string{"go", "if", "in"}, s) {
			left = append(left, s)
		}
	}
	names := map[int][]string{} // what is chosen for a node: for the values of its rule, then for its definition
	var walk func(at, values int)
	walk = func(at, values int) {
		many := values
		if p.Nodes[at].Op == api.TermDef {
			d := p.Defs[p.Nodes[at].N]
			many += len(d.Chans) + len(d.Spots)
		}
		names[at], left = left[:many], left[many:]
		if p.Nodes[at].Op == api.TermDef {
			d := p.Defs[p.Nodes[at].N]
			for _, r := range d.Rules {
				n := 0
				for _, j := range r.Joins {
					n += d.Chans[j].Many
				}
				walk(r.Node, n)
			}
			for _, x := range d.Spots {
				walk(x.Node, 0)
			}
		}
		for _, k := range p.Nodes[at].Kids {
			walk(k, 0)
		}
	}
	walk(p.Main, 0)
	return speller{p, facts{}, func(env, own []string, at int) string {
		s := names[at][0]
		names[at] = names[at][1:]
		return s
	}, apart}.process()
}
