package usage

import (
	"slices"

	"cabotage/api"
)

// fits reports whether a table is as defined for a program.
func (p program) fits(t []api.UsageDef) bool { return slices.EqualFunc(p.Defs, t, isFor) }

// isFor reports whether that is what a table can have for a definition.
func isFor(d api.ScopeDef, u api.UsageDef) bool {
	asMany := func(c api.ScopeChan, l []api.UsageKind) bool { return len(l) == c.Many }
	if len(u.Chans) != len(d.Chans) || len(u.Rules) != len(d.Rules) || !slices.EqualFunc(d.Chans, u.Args, asMany) {
		return false
	}
	kinds := kindsOf(u)
	return !slices.ContainsFunc(kinds, notKind) && !slices.Contains(kinds[len(u.Chans):], api.UsageOnce)
}

func notKind(k api.UsageKind) bool { return k < api.UsageNever || k > api.UsageMany }

// kindsOf returns all kinds that a table has for a definition, in order.
func kindsOf(u api.UsageDef) []api.UsageKind {
	return slices.Concat(u.Chans, u.Rules, slices.Concat(u.Args...))
}

// empty returns the table in which all counts are 0.
func (p program) empty() []api.UsageDef {
	var t []api.UsageDef
	for _, d := range p.Defs {
		u := api.UsageDef{Chans: never(len(d.Chans)), Rules: never(len(d.Rules))}
		for _, c := range d.Chans {
			u.Args = append(u.Args, never(c.Many))
		}
		t = append(t, u)
	}
	return t
}

// never returns a list of so many counts that are 0.
func never(long int) []api.UsageKind {
	return slices.Repeat([]api.UsageKind{api.UsageNever}, long)
}

// least returns what the counts of a table must at least be, by this table.
func (c counted) least() []api.UsageDef {
	t := c.empty()
	for def, u := range t {
		for i := range u.Chans {
			u.Chans[i] = c.sends(c.makers[def], c.place(channel{def, i})).kind()
		}
		for i, r := range c.Defs[def].Rules {
			u.Rules[i] = c.reactions(def, r).kind()
			if countOf(c.by[def].Rules[i]) > none {
				c.handOn(def, r, u.Args)
			}
		}
	}
	return t
}

// reactions returns the least one of the counts of the channels of which a rule takes messages.
func (c counted) reactions(def int, r api.ScopeRule) count {
	least := many
	for _, j := range r.Joins {
		least = min(least, countOf(c.by[def].Chans[j]))
	}
	return least
}

// handOn makes the counts of what messages bring as great as the sends of the node of a rule to it.
func (c counted) handOn(def int, r api.ScopeRule, args [][]api.UsageKind) {
	kid := c.Nodes[c.makers[def]].Kids[0]
	place := c.sizes[kid] // where the first value is in the environment of the rule's node
	for _, j := range r.Joins {
		for i, k := range args[j] {
			args[j][i] = greater(countOf(k), c.sends(r.Node, place)).kind()
			place++
		}
	}
}

// accepted reports whether the table is accepted.
func (c counted) accepted() bool {
	for def, least := range c.least() {
		kinds := kindsOf(c.by[def])
		for i, k := range kindsOf(least) {
			if countOf(kinds[i]) < countOf(k) {
				return false
			}
		}
		for i, k := range c.by[def].Chans {
			if k == api.UsageOnce && !c.surely(channel{def, i}) {
				return false
			}
		}
	}
	return true
}

// surely reports whether 1 is sent to a channel for sure, as soon as it is made.
func (p program) surely(c channel) bool { return p.sure(p.makers[c.def], p.place(c)) == 1 }

// table returns the table of the program. No count becomes less from one pass to the next, so that there is a last one.
func (p program) table() []api.UsageDef {
	t := p.empty()
passes:
	for {
		next := counted{p, t}.least()
		for def, u := range next {
			if !slices.Equal(kindsOf(u), kindsOf(t[def])) {
				t = next
				continue passes
			}
		}
		break passes
	}
	for def, u := range t {
		for i, k := range u.Chans {
			if k == api.UsageMost && p.surely(channel{def, i}) {
				u.Chans[i] = api.UsageOnce
			}
		}
	}
	return t
}
