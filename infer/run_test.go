package infer_test

import (
	"maps"
	"math/rand"
	"testing"

	"cabotage/api"
	"cabotage/infer"
	"cabotage/term"
)

// A value is an integer, a free name (a string), a *spot or a *line.
type spot struct{}

// line is a channel, with the messages that wait on it.
type line struct {
	many int
	wait [][]any
}

// todo is a process that is to be done, with what its names are.
type todo struct {
	api.Term
	env map[string]any
}

// reaction is a rule, with what is around it.
type reaction struct {
	api.TermClause
	env map[string]any
}

// running does what a process does, in an order by chance; nothing dies, and places do not matter.
type running struct {
	*rand.Rand
	todo  []todo
	rules []reaction
	wrong bool
}

// goesWrong reports whether something goes wrong in the first steps of a run.
func goesWrong(t api.Term, r *rand.Rand) bool {
	w := &running{Rand: r}
	env := map[string]any{}
	free, _ := term.Free(t)
	for _, n := range free {
		env[n] = n
	}
	w.todo = append(w.todo, todo{t, env})
	for steps := 0; steps < 60 && !w.wrong; steps++ {
		if len(w.todo) > 0 && w.Intn(4) > 0 {
			k := w.Intn(len(w.todo))
			next := w.todo[k]
			w.todo = append(w.todo[:k], w.todo[k+1:]...)
			w.do(next)
		} else if len(w.rules) > 0 {
			w.react(w.rules[w.Intn(len(w.rules))])
		}
	}
	return w.wrong
}

func (w *running) do(p todo) {
	switch p.Op {
	case api.TermPar:
		w.todo = append(w.todo, todo{p.Kids[0], p.env}, todo{p.Kids[1], p.env})
	case api.TermDef:
		env := maps.Clone(p.env)
		w.define(p.Defs, env)
		w.todo = append(w.todo, todo{p.Kids[0], env})
	case api.TermIf:
		if n, ok := w.number(p.Args[0], p.env); ok && n != 0 {
			w.todo = append(w.todo, todo{p.Kids[0], p.env})
		} else if ok {
			w.todo = append(w.todo, todo{p.Kids[1], p.env})
		}
	case api.TermGo, api.TermWatch:
		switch p.env[p.Text].(type) {
		case *spot:
			w.todo = append(w.todo, todo{p.Kids[0], p.env})
		case string:
		default:
			w.wrong = true
		}
	case api.TermSend:
		w.send(p)
	}
}

// define binds what some Defs define, in an environment that is new.
func (w *running) define(l []api.TermClause, env map[string]any) {
	for _, c := range l {
		if c.Form == api.TermPlace {
			env[c.Text] = &spot{}
			w.todo = append(w.todo, todo{c.Kids[0], env})
			w.define(c.Defs, env)
			continue
		}
		w.rules = append(w.rules, reaction{c, env})
	}
	seen := map[string]bool{}
	for _, c := range l {
		for _, j := range c.Joins {
			if !seen[j.Text] {
				seen[j.Text] = true
				env[j.Text] = &line{many: len(j.Names)}
			}
		}
	}
}

func (w *running) send(p todo) {
	var l []any
	for _, e := range p.Args {
		x, ok := w.value(e, p.env)
		if !ok {
			return
		}
		l = append(l, x)
	}
	switch c := p.env[p.Text].(type) {
	case *line:
		w.wrong = w.wrong || len(l) != c.many
		c.wait = append(c.wait, l)
	case string:
	default:
		w.wrong = true
	}
}

// value returns what an expression is, if it does not reckon with a free name.
func (w *running) value(e api.TermExp, env map[string]any) (any, bool) {
	switch e.Op {
	case api.TermInt:
		return e.N, true
	case api.TermName:
		return env[e.Text], true
	case api.TermSame:
		a, ok := w.value(e.Kids[0], env)
		b, yes := w.value(e.Kids[1], env)
		if a == b {
			return 1, ok && yes
		}
		return 0, ok && yes
	}
	a, ok := w.number(e.Kids[0], env)
	b, yes := w.number(e.Kids[1], env)
	switch {
	case e.Op == api.TermAdd:
		a += b
	case e.Op == api.TermSub:
		a -= b
	case e.Op == api.TermMul:
		a *= b
	case a < b:
		a = 1
	default:
		a = 0
	}
	return a, ok && yes
}

// number returns what has to be an integer, unless it is a free name.
func (w *running) number(e api.TermExp, env map[string]any) (int, bool) {
	x, ok := w.value(e, env)
	switch n := x.(type) {
	case int:
		return n, ok
	case string:
	default:
		w.wrong = w.wrong || ok
	}
	return 0, false
}

func (w *running) react(r reaction) {
	for _, j := range r.Joins {
		if len(r.env[j.Text].(*line).wait) == 0 {
			return
		}
	}
	env := maps.Clone(r.env)
	for _, j := range r.Joins {
		c := r.env[j.Text].(*line)
		k := w.Intn(len(c.wait))
		message := c.wait[k]
		c.wait = append(c.wait[:k], c.wait[k+1:]...)
		for i, n := range j.Names {
			env[n] = message[i]
		}
	}
	w.todo = append(w.todo, todo{r.Kids[0], env})
}

// runs returns how many runs there are of processes that type, none of which may go wrong, and how many others go wrong.
func runs(t *testing.T, many, each int, wrongRun func(u api.Term, r *rand.Rand) bool) (typed, wrong int) {
	processes(t, many, func(seed int64, u api.Term) {
		_, e := infer.Infer(u)
		r := rand.New(rand.NewSource(seed))
		for range each {
			went := wrongRun(u, r)
			switch {
			case e == api.OK && went:
				t.Fatal(seed, source(u))
			case e == api.OK:
				typed++
			case went:
				wrong++
			}
		}
	})
	return typed, wrong
}

// P4.6: what types does not go wrong.
func TestRuns(t *testing.T) {
	if typed, wrong := runs(t, 5000, 8, goesWrong); typed < 3000 || wrong < 3000 {
		t.Error("too few of one kind:", typed, wrong)
	}
}

// P4.6: what goes wrong, but only because different messages are taken together, or one name is of two types.
func TestWrongRuns(t *testing.T) {
	for _, s := range []string{
		"def n(i) = n(i + 1) and get(k) & cell(a) = k(a) in get(n) | cell(get)", "def n(i) = n(i + 1) in def place p { get(k) & cell(a) = k(a) in 0 } in get(n) | cell(p)", "def n(i) = n(i + 1) in def x(a) & z() = w(a) and w(b) & v(k) = k(b) in x(v) | z() | v(n)",
		"def n(i) = n(i + 1) and x(a) = (def y(b) = a(b) in y(1) | y(x)) in x(n)", "def n(i) = n(i + 1) and x(a) = n(a) and z() = (def y(b) = x(b) in y(1) | y(z)) in z()", "def n(i) = n(i + 1) in def x(a) & y(k) = k(a) in def z(b) = x(b) in z(z) | y(n)",
		"def x(a) = a() in x(1)", "def x(a) = go a; 0 in x(x)", "def place p { in p() } in 0", "def x(a) = if a then 0 else 0 and place p { in x(p) } in 0", "def x(a, b) = 0 in x(1)", "def x(k) = k(1, 2) and y(a) = 0 in x(y)", "def x() = 0 in watch x; 0",
	} {
		u := process(s)
		wrong := false
		for seed := range int64(50) {
			wrong = wrong || goesWrong(u, rand.New(rand.NewSource(seed)))
		}
		if _, e := infer.Infer(u); e != api.ErrRule || !wrong {
			t.Error(s, wrong, e)
		}
		if is, e := infer.With(u, nil); is || e != api.OK || allTypes(t, u) {
			t.Error(s, is, e)
		}
	}
}
