package infer_test

import (
	"math/rand"
	"slices"
	"testing"

	"cabotage/api"
	"cabotage/infer"
	"cabotage/scope"
	"cabotage/sol"
)

// watcher looks for what goes wrong in a step of layer 6: it goes through what is done at once, beside layer 6, from the solution before the step.
type watcher struct {
	api.ScopeProg
	brings []int // how many values the messages of each channel bring
	places int
	wrong  bool
}

// watch returns what there is behind what a node does at once in an environment.
func watch(p api.ScopeProg, s api.Sol, node int, env []api.SolVal) *watcher {
	w := &watcher{ScopeProg: p, places: len(s.Spots)}
	for _, c := range s.Chans {
		w.brings = append(w.brings, p.Defs[s.Groups[c.Group].Def].Chans[c.Index].Many)
	}
	w.do(node, env)
	return w
}

// must notes a value that has to be of a kind, unless it is a free name.
func (w *watcher) must(v api.SolVal, k api.SolKind) {
	w.wrong = w.wrong || v.Kind != k && v.Kind != api.SolFree
}

func (w *watcher) do(node int, env []api.SolVal) {
	n := w.Nodes[node]
	for _, a := range n.Args {
		w.reckon(a, env)
	}
	switch n.Op {
	case api.TermSend:
		to := env[n.N]
		w.must(to, api.SolChan)
		w.wrong = w.wrong || to.Kind == api.SolChan && w.brings[to.N] != len(n.Args)
	case api.TermPar:
		w.do(n.Kids[0], env)
		w.do(n.Kids[1], env)
	case api.TermIf:
		v, _ := sol.Value(n.Args[0], env)
		w.must(v, api.SolInt)
		if v.Kind == api.SolInt && v.N != 0 {
			w.do(n.Kids[0], env)
		} else {
			w.do(n.Kids[1], env)
		}
	case api.TermGo, api.TermWatch:
		w.must(env[n.N], api.SolPlace)
	case api.TermDef:
		w.define(n, env)
	}
}

func (w *watcher) define(n api.ScopeNode, env []api.SolVal) {
	d := w.Defs[n.N]
	env = slices.Clone(env)
	for _, c := range d.Chans {
		env = append(env, api.SolVal{Kind: api.SolChan, N: len(w.brings)})
		w.brings = append(w.brings, c.Many)
	}
	for range d.Spots {
		env = append(env, api.SolVal{Kind: api.SolPlace, N: w.places})
		w.places++
	}
	for _, s := range d.Spots {
		w.do(s.Node, env)
	}
	w.do(n.Kids[0], env)
}

// reckon looks at what an expression reckons with; what TermSame compares can be anything.
func (w *watcher) reckon(e api.ScopeExp, env []api.SolVal) {
	for _, k := range e.Kids {
		w.reckon(k, env)
		if v, _ := sol.Value(k, env); e.Op != api.TermSame {
			w.must(v, api.SolInt)
		}
	}
}

// wrongRun reports whether something goes wrong in a run of layer 6 by chance.
func wrongRun(t *testing.T, p api.ScopeProg, r *rand.Rand, steps int) bool {
	t.Helper()
	var env []api.SolVal
	for i := range p.Free {
		env = append(env, api.SolVal{Kind: api.SolFree, N: i})
	}
	w := watch(p, api.Sol{Spots: make([]api.SolSpot, 1)}, p.Main, env)
	s, _, e := sol.First(p)
	for e == api.OK && !w.wrong && steps > 0 {
		if len(w.brings) != len(s.Chans) || w.places != len(s.Spots) {
			t.Fatal("the watcher does something else:", p, s, w)
		}
		steps--
		many, _ := sol.Count(p, s)
		x, f := sol.Nth(p, s, r.Intn(max(many, 1)))
		if f != api.OK {
			break // there is no step
		}
		u, l, f := sol.Do(p, s, x)
		if node, env := doneBy(p, s, x, l); node >= 0 {
			w = watch(p, s, node, env)
		}
		s, e = u, f
	}
	if e != api.OK && e != api.ErrLong {
		t.Fatal(p, e)
	}
	return w.wrong
}

// doneBy returns the node that a step does, and its environment; -1 if there is none.
func doneBy(p api.ScopeProg, s api.Sol, x api.SolStep, l []api.SolEvent) (int, []api.SolVal) {
	switch {
	case len(l) == 0 || l[0].Deed == api.SolDied:
		return -1, nil
	case l[0].Deed == api.SolTook:
		g := s.Groups[x.Group]
		return p.Defs[g.Def].Rules[x.Rule].Node, slices.Concat(g.Env, l[0].Vals)
	}
	return p.Nodes[s.Waits[x.Wait].Node].Kids[0], s.Waits[x.Wait].Env
}

// P4.6: what types does not go wrong in the runs of layer 6.
func TestHeld(t *testing.T) {
	typed, wrong := runs(t, 2500, 3, func(u api.Term, r *rand.Rand) bool {
		p, e := scope.Bind(u)
		return e == api.OK && wrongRun(t, p, r, 12)
	})
	if typed < 500 || wrong < 1000 {
		t.Error("too few of one kind:", typed, wrong)
	}
}

// P4.6: what does not type, and does go wrong; and what types, and does not.
func TestHeldOfSources(t *testing.T) {
	for _, s := range []string{
		"def n(i) = n(i + 1) and get(k) & cell(a) = k(a) in get(n) | cell(get)", "def n(i) = n(i + 1) in def place p { get(k) & cell(a) = k(a) in 0 } in get(n) | cell(p)", "def n(i) = n(i + 1) in def x(a) & z() = w(a) and w(b) & v(k) = k(b) in x(v) | z() | v(n)", "def n(i) = n(i + 1) and x(a) = (def y(b) = a(b) in y(1) | y(x)) in x(n)",
		"def x(a) = a() in x(1)", "def x(a) = go a; 0 in x(x)", "def place p { in p() } in 0", "def x(a) = if a then 0 else 0 and place p { in x(p) } in 0", "def x(a, b) = 0 in x(1)", "def x(k) = k(1, 2) and y(a) = 0 in x(y)", "def x() = 0 in watch x; 0", "def x() = 0 in out(x < 1)", "def place p { in out(1 + 2 * p) } in 0",
	} {
		if went, e := anyWrongRun(t, s); e != api.ErrRule || !went {
			t.Error(s, went, e)
		}
	}
	for _, s := range []string{
		procB, procC, procD, "def x(a) = if a == y then out(1) else out(2) and y() = 0 in x(y)", "out(1 + q, 2 < q) | (if q then 0 else stop)", "def x(a) & y(b) = x(a) | y(b) in x(1) | x(p) | y(x) | y(y)",
		"def x(a) = go a; out(a) and place p { in x(p) | (watch q; stop) } and place q { in go p; stop } in (watch p; x(q))", "def x(k, a) = k(a) in x(out, q)", "def x(a) = (def y(b) = out(a, b) in y(1) | y(2)) in x(p) | x(q)",
	} {
		if went, e := anyWrongRun(t, s); e != api.OK || went {
			t.Error(s, went, e)
		}
	}
}

// anyWrongRun reports whether something goes wrong in one of some runs of a process, and whether it types.
func anyWrongRun(t *testing.T, s string) (bool, api.Errno) {
	t.Helper()
	u := process(s)
	p, _ := scope.Bind(u)
	_, e := infer.Infer(u)
	for seed := range int64(40) {
		if wrongRun(t, p, rand.New(rand.NewSource(seed)), 12) {
			return true, e
		}
	}
	return false, e
}
