package usage

import "cabotage/api"

// counted is a program with a table of it.
type counted struct {
	program
	by []api.UsageDef
}

// sends returns the sends of a node to a place of its environment, and of a TermDef also its inner sends to a place that it adds.
func (c counted) sends(at, place int) count {
	switch c.Nodes[at].Op {
	case api.TermSend:
		return c.message(at, place)
	case api.TermIf:
		return c.together(at, place, greater[count])
	}
	return c.together(at, place, count.plus)
}

// together puts the sends of all that is right below a node together.
func (c counted) together(at, place int, both func(a, b count) count) count {
	sum := none
	for k, rule := range c.under(at) {
		sum = both(sum, c.sends(k, place).times(c.reacts(at, rule)))
	}
	return sum
}

// reacts returns how often the node of a rule of a TermDef is done, and 1 for what is the node of none.
func (c counted) reacts(at, rule int) count {
	if rule == unruled {
		return one
	}
	return countOf(c.by[c.Nodes[at].N].Rules[rule])
}

// message returns the sends of a TermSend.
func (c counted) message(at, place int) count {
	n := c.Nodes[at]
	to, known := c.denoted[at][n.N]
	if known && len(n.Args) != c.brings(to) {
		return none
	}
	sum := none
	if n.N == place {
		sum = one
	}
	for i, a := range n.Args {
		if a.Op != api.TermName || a.N != place {
			continue
		}
		if !known {
			return many
		}
		sum = sum.plus(countOf(c.by[to.def].Args[to.index][i]))
	}
	return sum
}

// sure returns what a node sends to a place for sure, and of a TermDef also what it sends to a place that it adds.
func (p program) sure(at, place int) int {
	n := p.Nodes[at]
	switch n.Op {
	case api.TermSend:
		if to, known := p.denoted[at][place]; known && n.N == place && len(n.Args) == p.brings(to) {
			return 1
		}
	case api.TermIf:
		return min(p.sure(n.Kids[0], place), p.sure(n.Kids[1], place))
	case api.TermPar, api.TermDef:
		sum := 0
		for k, rule := range p.under(at) {
			if rule == unruled {
				sum += p.sure(k, place)
			}
		}
		return sum
	}
	return 0
}
