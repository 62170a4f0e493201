package usage_test

import (
	"math/rand"
	"slices"
	"testing"

	"cabotage/api"
)

// A value is an integer, a free name (a string), a *spot or a *line.
type spot struct{}

// line is a channel of a group, with the messages that wait there.
type line struct {
	of    *group
	index int
	wait  [][]any
}

// group is a definition that was done: how many messages came to its channels, and how often its rules reacted.
type group struct {
	def            int
	env            []any
	lines          []*line
	heard, reacted []int
}

// ready is a node with its environment.
type ready struct {
	node int
	env  []any
}

// running does what a program does. Each place lives and is watched as if it were dead, so that it does more than any run: what holds of it holds of them.
type running struct {
	api.ScopeProg
	groups []*group
	waits  []ready
}

func (w *running) do(at int, env []any) {
	n := w.Nodes[at]
	switch n.Op {
	case api.TermSend:
		w.send(n, env)
	case api.TermPar:
		w.do(n.Kids[0], env)
		w.do(n.Kids[1], env)
	case api.TermDef:
		w.define(n, env)
	case api.TermIf:
		if x, ok := value(n.Args[0], env).(int); ok && x != 0 {
			w.do(n.Kids[0], env)
		} else {
			w.do(n.Kids[1], env)
		}
	case api.TermGo, api.TermWatch:
		w.waits = append(w.waits, ready{at, env})
	}
}

func (w *running) send(n api.ScopeNode, env []any) {
	to, ok := env[n.N].(*line)
	if !ok || w.Defs[to.of.def].Chans[to.index].Many != len(n.Args) {
		return
	}
	var vals []any
	for _, a := range n.Args {
		vals = append(vals, value(a, env))
	}
	to.wait = append(to.wait, vals)
	to.of.heard[to.index]++
}

func (w *running) define(n api.ScopeNode, env []any) {
	d := w.Defs[n.N]
	g := &group{def: n.N, env: slices.Clone(env), heard: make([]int, len(d.Chans)), reacted: make([]int, len(d.Rules))}
	for i := range d.Chans {
		g.lines = append(g.lines, &line{of: g, index: i})
		g.env = append(g.env, g.lines[i])
	}
	for range d.Spots {
		g.env = append(g.env, &spot{})
	}
	w.groups = append(w.groups, g)
	for _, s := range d.Spots {
		w.do(s.Node, g.env)
	}
	w.do(n.Kids[0], g.env)
}

func value(e api.ScopeExp, env []any) any {
	switch e.Op {
	case api.TermInt:
		return e.N
	case api.TermName:
		return env[e.N]
	}
	if e.Op == api.TermSame && value(e.Kids[0], env) == value(e.Kids[1], env) {
		return 1
	}
	return 0 // the tests reckon with nothing else
}

// step does any step, and reports whether there was one.
func (w *running) step(r *rand.Rand) bool {
	var steps []func()
	for i, x := range w.waits {
		if s, ok := x.env[w.Nodes[x.node].N].(*spot); ok && s != nil {
			steps = append(steps, func() {
				w.waits = slices.Delete(w.waits, i, i+1)
				w.do(w.Nodes[x.node].Kids[0], x.env)
			})
		}
	}
	for _, g := range w.groups {
		for i, x := range w.Defs[g.def].Rules {
			if !slices.ContainsFunc(x.Joins, func(j int) bool { return len(g.lines[j].wait) == 0 }) {
				steps = append(steps, func() { w.react(r, g, i) })
			}
		}
	}
	if len(steps) > 0 {
		steps[r.Intn(len(steps))]()
	}
	return len(steps) > 0
}

func (w *running) react(r *rand.Rand, g *group, rule int) {
	g.reacted[rule]++
	env := slices.Clone(g.env)
	for _, j := range w.Defs[g.def].Rules[rule].Joins {
		l := g.lines[j]
		k := r.Intn(len(l.wait))
		env = append(env, l.wait[k]...)
		l.wait = slices.Delete(l.wait, k, k+1)
	}
	w.do(w.Defs[g.def].Rules[rule].Node, env)
}

// within reports whether something happened no more often than a kind says.
func within(often int, k api.UsageKind) bool { return number(k) == 2 || often <= number(k) }

// P5.5: in every run no more messages come, and no rule reacts more often, than the counts say. P5.6: what is once comes in the step in which the group is made.
func TestRuns(t *testing.T) {
	seen := map[api.UsageKind][3]int{} // how often a channel with a kind had no message, one, and more
	programs(t, 3000, func(seed int64, r *rand.Rand, p api.ScopeProg) {
		u := tableOf(t, p)
		for range 3 {
			for g := range run(p, r) {
				for i, n := range g.heard {
					k := u[g.def].Chans[i]
					if !within(n, k) || k == api.UsageOnce && n != 1 {
						t.Fatal(seed, p, show(u), g.def, g.heard)
					}
					many := seen[k]
					many[min(n, 2)]++
					seen[k] = many
				}
				for i, n := range g.reacted {
					if !within(n, u[g.def].Rules[i]) {
						t.Fatal(seed, p, show(u), g.def, g.reacted)
					}
				}
			}
		}
	})
	if seen[api.UsageOnce][1] < 1000 || seen[api.UsageMost][1] < 300 || seen[api.UsageMost][0] < 300 || seen[api.UsageMany][2] < 1000 || seen[api.UsageNever][0] < 1000 {
		t.Error("too few of a kind:", seen)
	}
}

// run goes through the groups as they are behind each step of a run.
func run(p api.ScopeProg, r *rand.Rand) func(yield func(*group) bool) {
	return func(yield func(*group) bool) {
		w := &running{ScopeProg: p}
		var env []any
		for _, n := range p.Free {
			env = append(env, n)
		}
		w.do(p.Main, env)
		for range 25 {
			for _, g := range w.groups {
				if !yield(g) {
					return
				}
			}
			if !w.step(r) {
				return
			}
		}
	}
}
