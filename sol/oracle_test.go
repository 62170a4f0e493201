package sol_test

import (
	"math/big"
	"slices"

	"cabotage/api"
	"cabotage/scope"
)

// This is a second reading of the chapter: what a solution says as objects that refer to each other, without numbers but where it is written down again.

// A value is an integer (*big.Int), a free name (freeName), a *spot or a *line.
type freeName int

// spot is a place.
type spot struct {
	in   *spot
	dead bool
}

// line is a channel.
type line struct {
	of    *group
	index int
	at    *spot
	queue [][]any
}

// group has its own channels and places beside its environment.
type group struct {
	def   int
	at    *spot
	env   []any
	lines []*line
	spots []*spot
}

// waiting is a process that waits.
type waiting struct {
	node int
	at   *spot
	env  []any
}

// world is a solution, and what is seen of its last step.
type world struct {
	api.ScopeProg
	spots  []*spot
	groups []*group
	lines  []*line
	waits  []*waiting
	seen   []api.SolEvent
	over   bool // a queue was too long
}

// worldOf reads a solution.
func worldOf(p api.ScopeProg, s api.Sol) *world {
	w := &world{ScopeProg: p}
	for _, x := range s.Spots {
		w.spots = append(w.spots, &spot{dead: x.Dead})
	}
	for i, x := range s.Spots {
		if i > 0 {
			w.spots[i].in = w.spots[x.In]
		}
	}
	for _, x := range s.Groups {
		w.groups = append(w.groups, &group{def: x.Def, at: w.spots[x.At]})
	}
	for _, x := range s.Chans {
		l := &line{of: w.groups[x.Group], index: x.Index, at: w.spots[x.At]}
		w.lines = append(w.lines, l)
		l.of.lines = append(l.of.lines, l)
	}
	for i, x := range s.Chans {
		for _, m := range x.Queue {
			w.lines[i].queue = append(w.lines[i].queue, w.read(m.Vals))
		}
	}
	for i, x := range s.Groups {
		g := w.groups[i]
		g.env = w.read(x.Env)
		for _, v := range g.env[len(g.env)-len(w.Defs[g.def].Spots):] {
			g.spots = append(g.spots, v.(*spot))
		}
	}
	for _, x := range s.Waits {
		w.waits = append(w.waits, &waiting{x.Node, w.spots[x.At], w.read(x.Env)})
	}
	return w
}

func (w *world) read(l []api.SolVal) []any {
	var out []any
	for _, v := range l {
		switch v.Kind {
		case api.SolInt:
			out = append(out, big.NewInt(int64(v.N)))
		case api.SolFree:
			out = append(out, freeName(v.N))
		case api.SolChan:
			out = append(out, w.lines[v.N])
		case api.SolPlace:
			out = append(out, w.spots[v.N])
		}
	}
	return out
}

func (w *world) write(l []any) []api.SolVal {
	var out []api.SolVal
	for _, v := range l {
		switch v := v.(type) {
		case *big.Int:
			out = append(out, integer(int(v.Int64())))
		case freeName:
			out = append(out, free(int(v)))
		case *line:
			out = append(out, channel(slices.Index(w.lines, v)))
		case *spot:
			out = append(out, place(w.numberOf(v)))
		}
	}
	return out
}

func (w *world) numberOf(s *spot) int { return slices.Index(w.spots, s) }

// written writes the world as a solution.
func (w *world) written() api.Sol {
	var s api.Sol
	for _, x := range w.spots {
		s.Spots = append(s.Spots, api.SolSpot{In: w.numberOf(x.in), Dead: x.dead})
	}
	for _, g := range w.groups {
		s.Groups = append(s.Groups, api.SolGroup{Def: g.def, At: w.numberOf(g.at), Env: w.write(g.env)})
	}
	for _, l := range w.lines {
		q := api.SolQ{Group: slices.Index(w.groups, l.of), Index: l.index, At: w.numberOf(l.at)}
		for _, m := range l.queue {
			q.Queue = append(q.Queue, api.SolMsg{Vals: w.write(m)})
		}
		s.Chans = append(s.Chans, q)
	}
	for _, x := range w.waits {
		s.Waits = append(s.Waits, api.SolWait{At: w.numberOf(x.at), Node: x.node, Env: w.write(x.env)})
	}
	return s
}

// tooMuch reports whether there is more than can be.
func (w *world) tooMuch() bool {
	return w.over || len(w.spots) > api.SolSpots || len(w.groups) > api.SolGroups || len(w.lines) > api.SolChans || len(w.waits) > api.SolWaits
}

// begun is the world at first.
func begun(p api.ScopeProg) *world {
	w := &world{ScopeProg: p, spots: []*spot{{}}}
	var env []any
	for i := range p.Free {
		env = append(env, freeName(i))
	}
	w.do(p.Main, w.spots[0], env)
	return w
}

// holds reports whether a place is within another one.
func holds(a, b *spot) bool {
	for ; b != nil; b = b.in {
		if b == a {
			return true
		}
	}
	return false
}

func (w *world) tell(deed api.SolDeed, at *spot, n, m int, vals []any) {
	w.seen = append(w.seen, api.SolEvent{Deed: deed, At: w.numberOf(at), N: n, M: m, Vals: w.write(vals)})
}

func (w *world) do(node int, at *spot, env []any) {
	n := w.Nodes[node]
	switch n.Op {
	case api.TermSend:
		w.send(n, at, env)
	case api.TermPar:
		w.do(n.Kids[0], at, env)
		w.do(n.Kids[1], at, env)
	case api.TermDef:
		w.define(n, at, env)
	case api.TermIf:
		if x, ok := meaning(n.Args[0], env).(*big.Int); ok && x.Sign() != 0 {
			w.do(n.Kids[0], at, env)
		} else {
			w.do(n.Kids[1], at, env)
		}
	case api.TermGo, api.TermStop, api.TermWatch:
		w.waits = append(w.waits, &waiting{node, at, env})
	}
}

func (w *world) send(n api.ScopeNode, at *spot, env []any) {
	var vals []any
	for _, a := range n.Args {
		vals = append(vals, meaning(a, env))
	}
	switch to := env[n.N].(type) {
	case freeName:
		w.tell(api.SolSaid, at, int(to), 0, vals)
	case *line:
		if !to.at.dead && w.Defs[to.of.def].Chans[to.index].Many == len(n.Args) {
			to.queue = append(to.queue, vals)
			w.over = w.over || len(to.queue) > api.SolQueue
		}
	}
}

func (w *world) define(n api.ScopeNode, at *spot, env []any) {
	d := w.Defs[n.N]
	g := &group{def: n.N, at: at, env: slices.Clone(env)}
	for range d.Spots {
		g.spots = append(g.spots, &spot{})
	}
	around := append([]*spot{at}, g.spots...)
	for i, c := range d.Chans {
		g.lines = append(g.lines, &line{of: g, index: i, at: around[c.At]})
		g.env = append(g.env, g.lines[i])
	}
	for i, s := range d.Spots {
		g.spots[i].in = around[s.In]
		g.env = append(g.env, g.spots[i])
	}
	w.groups, w.lines, w.spots = append(w.groups, g), append(w.lines, g.lines...), append(w.spots, g.spots...)
	for i, s := range d.Spots {
		w.do(s.Node, g.spots[i], g.env)
	}
	w.do(n.Kids[0], at, g.env)
}

// meaning is the value of an expression, reckoned with integers of any size.
func meaning(e api.ScopeExp, env []any) any {
	switch e.Op {
	case api.TermInt:
		return big.NewInt(int64(e.N))
	case api.TermName:
		return env[e.N]
	}
	var of [2]*big.Int
	for i := range of {
		n, ok := meaning(e.Kids[i], env).(*big.Int)
		if !ok {
			n = new(big.Int)
		}
		of[i] = n
	}
	out := new(big.Int)
	switch e.Op {
	case api.TermAdd:
		out.Add(of[0], of[1])
	case api.TermSub:
		out.Sub(of[0], of[1])
	case api.TermMul:
		out.Mul(of[0], of[1])
	case api.TermLess:
		out.SetInt64(int64(number(of[0].Cmp(of[1]) < 0)))
	case api.TermSame:
		out.SetInt64(int64(number(of[0].Cmp(of[1]) == 0)))
	}
	if most := big.NewInt(api.TermMost); out.CmpAbs(most) > 0 {
		return most.Mul(most, big.NewInt(int64(out.Sign())))
	}
	return out
}

// steps are all steps, written down one by one.
func (w *world) steps() []api.SolStep {
	var l []api.SolStep
	for i, x := range w.waits {
		n := w.Nodes[x.node]
		can := n.Op == api.TermStop
		if !can {
			to, is := x.env[n.N].(*spot)
			can = is && (n.Op == api.TermWatch && to.dead || n.Op == api.TermGo && !to.dead && !holds(x.at, to) && x.at != w.spots[0])
		}
		if can {
			l = append(l, api.SolStep{Wait: i})
		}
	}
	for i, g := range w.groups {
		for k, r := range w.Defs[g.def].Rules {
			if append([]*spot{g.at}, g.spots...)[r.At].dead {
				continue
			}
			all := [][]int{nil}
			for _, j := range r.Joins {
				var longer [][]int
				for _, picks := range all {
					for m := range g.lines[j].queue {
						longer = append(longer, append(slices.Clone(picks), m))
					}
				}
				all = longer
			}
			for _, picks := range all {
				l = append(l, api.SolStep{Wait: -1, Group: i, Rule: k, Picks: picks})
			}
		}
	}
	return l
}

// step does one of the steps.
func (w *world) step(s api.SolStep) {
	w.seen = nil
	if s.Wait < 0 {
		w.react(s)
		return
	}
	x := w.waits[s.Wait]
	w.waits = slices.DeleteFunc(w.waits, func(y *waiting) bool { return x == y })
	n := w.Nodes[x.node]
	switch n.Op {
	case api.TermStop:
		w.tell(api.SolDied, x.at, 0, 0, nil)
		for _, b := range w.spots {
			b.dead = b.dead || holds(x.at, b)
		}
		w.waits = slices.DeleteFunc(w.waits, func(y *waiting) bool { return holds(x.at, y.at) })
		for _, l := range w.lines {
			if holds(x.at, l.at) {
				l.queue = nil
			}
		}
	case api.TermGo:
		x.at.in = x.env[n.N].(*spot)
		w.tell(api.SolWent, x.at, w.numberOf(x.at.in), 0, nil)
		w.do(n.Kids[0], x.at, x.env)
	case api.TermWatch:
		w.tell(api.SolTold, x.at, w.numberOf(x.env[n.N].(*spot)), 0, nil)
		w.do(n.Kids[0], x.at, x.env)
	}
}

func (w *world) react(s api.SolStep) {
	g := w.groups[s.Group]
	r := w.Defs[g.def].Rules[s.Rule]
	at := append([]*spot{g.at}, g.spots...)[r.At]
	env := slices.Clone(g.env)
	for i, j := range r.Joins {
		l, left := g.lines[j], [][]any(nil)
		for k, m := range l.queue {
			if k == s.Picks[i] {
				env = append(env, m...)
			} else {
				left = append(left, m)
			}
		}
		l.queue = left
	}
	w.tell(api.SolTook, at, s.Group, s.Rule, env[len(g.env):])
	w.do(r.Node, at, env)
}

// formed goes through the chapter's sentences about what is formed.
func formed(p api.ScopeProg, s api.Sol) bool {
	sizes, e := scope.Sizes(p)
	if e != api.OK || len(s.Spots) > api.SolSpots || len(s.Groups) > api.SolGroups || len(s.Chans) > api.SolChans || len(s.Waits) > api.SolWaits {
		return false
	}
	return formedSpots(s) && formedGroups(p, sizes, s) && formedChans(p, s) && formedWaits(p, sizes, s)
}

// formedIns reports whether each place is within the place 0.
func formedIns(s api.Sol) bool {
	for b := range s.Spots {
		at := b
		for range s.Spots {
			if at > 0 && at < len(s.Spots) {
				at = s.Spots[at].In
			}
		}
		if at != 0 {
			return false
		}
	}
	return len(s.Spots) > 0 && s.Spots[0].In == -1
}

func formedSpots(s api.Sol) bool {
	for _, x := range s.Spots {
		if formedIns(s) && x.In >= 0 && s.Spots[x.In].Dead && !x.Dead {
			return false
		}
	}
	return formedIns(s)
}

// isValue reports whether a solution has a value.
func isValue(p api.ScopeProg, s api.Sol, v api.SolVal) bool {
	many, known := map[api.SolKind]int{api.SolFree: len(p.Free), api.SolChan: len(s.Chans), api.SolPlace: len(s.Spots)}[v.Kind]
	if known {
		return v.N >= 0 && v.N < many
	}
	return v.Kind == api.SolInt && v.N <= api.TermMost && -v.N <= api.TermMost
}

func areValues(p api.ScopeProg, s api.Sol, l []api.SolVal, many int) bool {
	for _, v := range l {
		if !isValue(p, s, v) {
			return false
		}
	}
	return len(l) == many
}

func formedGroups(p api.ScopeProg, sizes []int, s api.Sol) bool {
	var own []api.SolVal
	for _, g := range s.Groups {
		if g.Def < 0 || g.Def >= len(p.Defs) || g.At < 0 || g.At >= len(s.Spots) {
			return false
		}
		d := p.Defs[g.Def]
		def := slices.IndexFunc(p.Nodes, func(n api.ScopeNode) bool { return n.Op == api.TermDef && n.N == g.Def })
		if !areValues(p, s, g.Env, sizes[p.Nodes[def].Kids[0]]) {
			return false
		}
		for i := range len(d.Chans) + len(d.Spots) {
			v := g.Env[sizes[def]+i]
			if (v.Kind == api.SolChan) != (i < len(d.Chans)) || (v.Kind == api.SolPlace) != (i >= len(d.Chans)) {
				return false
			}
			own = append(own, v)
		}
	}
	chans, places := 0, 1
	for _, v := range own {
		switch {
		case v.Kind == api.SolChan && v.N == chans:
			chans++
		case v.Kind == api.SolPlace && v.N == places:
			places++
		default:
			return false
		}
	}
	return chans == len(s.Chans) && places == len(s.Spots)
}

func formedChans(p api.ScopeProg, s api.Sol) bool {
	at := 0
	for i, g := range s.Groups {
		d := p.Defs[g.Def]
		around := []int{g.At}
		for _, v := range g.Env[len(g.Env)-len(d.Spots):] {
			around = append(around, v.N)
		}
		for k, c := range d.Chans {
			x := s.Chans[at]
			if x.Group != i || x.Index != k || x.At != around[c.At] || len(x.Queue) > api.SolQueue || len(x.Queue) > 0 && s.Spots[x.At].Dead {
				return false
			}
			for _, m := range x.Queue {
				if !areValues(p, s, m.Vals, c.Many) {
					return false
				}
			}
			at++
		}
	}
	return true
}

func formedWaits(p api.ScopeProg, sizes []int, s api.Sol) bool {
	for _, x := range s.Waits {
		if x.At < 0 || x.At >= len(s.Spots) || s.Spots[x.At].Dead || x.Node < 0 || x.Node >= len(p.Nodes) {
			return false
		}
		if !slices.Contains([]api.TermOp{api.TermGo, api.TermStop, api.TermWatch}, p.Nodes[x.Node].Op) || !areValues(p, s, x.Env, sizes[x.Node]) {
			return false
		}
	}
	return true
}
