package scope

import (
	"slices"

	"cabotage/api"
	"cabotage/term"
)

// choosing makes processes of the nodes of a program, and chooses names.
type choosing struct {
	program
	used []string // what is chosen no more
}

// processFor returns the process for a program.
func processFor(p program) api.Term {
	c := &choosing{p, slices.Clone(p.Free)}
	t := c.process(p.Main, p.Free)
	must(term.Check(t) == api.OK, api.ErrLong)
	return t
}

// more returns an environment with names that are chosen for so many places behind it.
func (c *choosing) more(names []string, many int) []string {
	names = slices.Clone(names)
	for range many {
		n := term.Fresh(c.used)
		c.used = append(c.used, n)
		names = append(names, n)
	}
	return names
}

// process returns the process of a node whose environment has some names. Names are chosen on the way, so that nodes have to be met in order.
func (c *choosing) process(at int, names []string) api.Term {
	t := api.Term{Op: c.Nodes[at].Op}
	for _, e := range c.Nodes[at].Args {
		t.Args = append(t.Args, exp(e, names))
	}
	switch n := c.node(at).(type) {
	case naming:
		t.Text = names[n.N]
	case defining:
		d := c.Defs[n.N]
		names = c.more(names, len(d.Chans)+len(d.Spots))
		t.Defs = c.clauses(d, names)
	}
	for _, k := range c.Nodes[at].Kids {
		t.Kids = append(t.Kids, c.process(k, names))
	}
	return t
}

func exp(e api.ScopeExp, names []string) api.TermExp {
	x := api.TermExp{Op: e.Op, N: e.N}
	if e.Op == api.TermName {
		x.N, x.Text = 0, names[e.N]
	}
	for _, k := range e.Kids {
		x.Kids = append(x.Kids, exp(k, names))
	}
	return x
}

// clauses returns the Defs of a definition; what it defines are the last ones of some names.
func (c *choosing) clauses(d api.ScopeDef, names []string) []api.TermClause {
	places := names[len(names)-len(d.Spots):]
	channels := names[len(names)-len(d.Spots)-len(d.Chans):]
	var rules, spots []api.TermClause
	for _, r := range d.Rules {
		rules = append(rules, c.rule(d, r, names, channels))
	}
	for i, s := range d.Spots {
		spots = append(spots, api.TermClause{Form: api.TermPlace, Text: places[i], Kids: []api.Term{c.process(s.Node, names)}})
	}
	return beside(d, 0, rules, spots)
}

func (c *choosing) rule(d api.ScopeDef, r api.ScopeRule, names, channels []string) api.TermClause {
	more := c.more(names, brought(d, r))
	values := more[len(names):]
	x := api.TermClause{Form: api.TermRule, Kids: []api.Term{c.process(r.Node, more)}}
	for _, j := range r.Joins {
		many := d.Chans[j].Many
		x.Joins = append(x.Joins, api.TermMsg{Text: channels[j], Names: slices.Clone(values[:many])})
		values = values[many:]
	}
	return x
}

// beside returns the Defs of a place of a definition, of what all its rules and places have become.
func beside(d api.ScopeDef, place int, rules, spots []api.TermClause) []api.TermClause {
	var l []api.TermClause
	for i, r := range d.Rules {
		if r.At == place {
			l = append(l, rules[i])
		}
	}
	for i, s := range d.Spots {
		if s.In == place {
			c := spots[i]
			c.Defs = beside(d, i+1, rules, spots)
			l = append(l, c)
		}
	}
	return l
}
