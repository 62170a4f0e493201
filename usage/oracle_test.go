package usage_test

import (
	"math/rand"

	"cabotage/api"
)

// link is how a node stands right below another one: as which of its Kids or as the body of which rule (else -1), and how many places its environment has more.
type link struct{ above, kid, rule, more int }

// judge knows of each node but Main how it stands. What it says is found by the way from a node upwards, and by going through all that the TermIfs can choose.
type judge struct {
	api.ScopeProg
	up  map[int]link
	ifs []int
}

func judgeOf(p api.ScopeProg) judge {
	q := judge{p, map[int]link{}, nil}
	for at, n := range p.Nodes {
		more := 0
		if n.Op == api.TermIf {
			q.ifs = append(q.ifs, at)
		}
		if n.Op == api.TermDef {
			d := p.Defs[n.N]
			more = len(d.Chans) + len(d.Spots)
			for i, r := range d.Rules {
				values := more
				for _, j := range r.Joins {
					values += d.Chans[j].Many
				}
				q.up[r.Node] = link{at, -1, i, values}
			}
			for _, s := range d.Spots {
				q.up[s.Node] = link{at, -1, -1, more}
			}
		}
		for i, k := range n.Kids {
			q.up[k] = link{at, i, -1, more}
		}
	}
	return q
}

func (q judge) size(at int) int {
	x, ok := q.up[at]
	if !ok {
		return len(q.Free)
	}
	return q.size(x.above) + x.more
}

// denotes returns what a place of a node's environment denotes.
func (q judge) denotes(at, place int) (def, index int, ok bool) {
	for {
		x, inside := q.up[at]
		if !inside {
			return 0, 0, false
		}
		if index = place - q.size(x.above); index >= 0 {
			def = q.Nodes[x.above].N
			return def, index, index < len(q.Defs[def].Chans)
		}
		at = x.above
	}
}

// way goes from a node up to another one: is reports for each link whether it can be gone, and how often. The result is how often all of it is gone.
func (q judge) way(from, to int, times func(x link) int) int {
	out := 1
	for from != to {
		x, ok := q.up[from]
		if !ok {
			return 0
		}
		out *= times(x)
		from = x.above
	}
	return out
}

// chosen reports whether a choice (a bit for each TermIf) does not leave out what is below a link.
func (q judge) chosen(x link, choice int) bool {
	for i, at := range q.ifs {
		if at == x.above && choice>>i&1 != x.kid {
			return false
		}
	}
	return true
}

// sends returns the sends, 2 for many.
func (q judge) sends(t []api.UsageDef, node, place int) int {
	most := 0
	for choice := range 1 << len(q.ifs) {
		sum := 0
		for at, n := range q.Nodes {
			if n.Op == api.TermSend {
				sum += q.message(t, at, place) * q.way(at, node, func(x link) int { return q.times(t, x, choice) })
			}
		}
		most = max(most, min(sum, 2))
	}
	return most
}

func (q judge) times(t []api.UsageDef, x link, choice int) int {
	switch {
	case !q.chosen(x, choice):
		return 0
	case x.rule >= 0:
		return number(t[q.Nodes[x.above].N].Rules[x.rule])
	}
	return 1
}

func (q judge) message(t []api.UsageDef, at, place int) int {
	n := q.Nodes[at]
	def, index, known := q.denotes(at, n.N)
	if known && q.Defs[def].Chans[index].Many != len(n.Args) {
		return 0
	}
	sum := 0
	if n.N == place {
		sum++
	}
	for i, a := range n.Args {
		if a.Op == api.TermName && a.N == place && known {
			sum += number(t[def].Args[index][i])
		} else if a.Op == api.TermName && a.N == place {
			sum += 2
		}
	}
	return sum
}

// sure returns what is sent for sure: the fewest messages of all choices.
func (q judge) sure(node, place int) int {
	least := len(q.Nodes)
	for choice := range 1 << len(q.ifs) {
		sum := 0
		for at, n := range q.Nodes {
			if n.Op != api.TermSend || n.N != place {
				continue
			}
			if def, index, known := q.denotes(at, place); known && q.Defs[def].Chans[index].Many == len(n.Args) {
				sum += q.way(at, node, func(x link) int { return q.atOnce(x, choice) })
			}
		}
		least = min(least, sum)
	}
	return least
}

func (q judge) atOnce(x link, choice int) int {
	if op := q.Nodes[x.above].Op; x.rule >= 0 || op == api.TermGo || op == api.TermWatch || !q.chosen(x, choice) {
		return 0
	}
	return 1
}

// asked returns what each entry of a table must at least be.
func (q judge) asked(t []api.UsageDef) []int {
	var l []int
	for def, d := range q.Defs {
		at := q.maker(def)
		inside := q.size(at) + len(d.Chans) + len(d.Spots)
		for i := range d.Chans {
			l = append(l, q.sends(t, at, q.size(at)+i))
		}
		for _, r := range d.Rules {
			least := 2
			for _, j := range r.Joins {
				least = min(least, number(t[def].Chans[j]))
			}
			l = append(l, least)
		}
		for c := range d.Chans {
			for i := range d.Chans[c].Many {
				l = append(l, q.askedOfArg(t, def, c, i, inside))
			}
		}
	}
	return l
}

func (q judge) askedOfArg(t []api.UsageDef, def, c, index, inside int) int {
	most := 0
	for i, r := range q.Defs[def].Rules {
		place := inside
		for _, j := range r.Joins {
			if j == c && number(t[def].Rules[i]) > 0 {
				most = max(most, q.sends(t, r.Node, place+index))
			}
			place += q.Defs[def].Chans[j].Many
		}
	}
	return most
}

// maker returns the TermDef of a definition.
func (q judge) maker(def int) int {
	for at, n := range q.Nodes {
		if n.Op == api.TermDef && n.N == def {
			return at
		}
	}
	return -1
}

// once reports whether a channel can be UsageOnce, if its count can be 1.
func (q judge) once(def, index int) bool {
	at := q.maker(def)
	return q.sure(at, q.size(at)+index) == 1
}

func (q judge) accepts(t []api.UsageDef) bool {
	asked := q.asked(t)
	for i, k := range entries(t) {
		if number(*k.UsageKind) < asked[i] {
			return false
		}
	}
	for def, u := range t {
		for i, k := range u.Chans {
			if k == api.UsageOnce && !q.once(def, i) {
				return false
			}
		}
	}
	return true
}

// raised makes counts of a table greater, one by one, in any order, until each is at least what it must be.
func (q judge) raised(r *rand.Rand, t []api.UsageDef) []api.UsageDef {
	for {
		var low []entry
		asked := q.asked(t)
		for i, k := range entries(t) {
			if number(*k.UsageKind) < asked[i] {
				low = append(low, k)
			}
		}
		if len(low) == 0 {
			return t
		}
		k := low[r.Intn(len(low))].UsageKind
		*k = map[int]api.UsageKind{0: api.UsageMost, 1: api.UsageMany}[number(*k)]
	}
}

// table returns the table of the program.
func (q judge) table(r *rand.Rand) []api.UsageDef {
	t := q.raised(r, blank(q.ScopeProg))
	for def, u := range t {
		for i, k := range u.Chans {
			if k == api.UsageMost && q.once(def, i) {
				u.Chans[i] = api.UsageOnce
			}
		}
	}
	return t
}
