package sol

import (
	"slices"

	"cabotage/api"
)

// changing is a solution that is being changed: no list of it shares memory with another one, or with an argument.
type changing struct {
	solution
	events []api.SolEvent
	done   int // how many processes the step has done at once
	does   map[api.TermOp]func(w *changing, x api.SolWait)
}

// tooMuch is what gives up: how many things there would be.
type tooMuch int

// atMost gives up if there are more things than can be.
func atMost(limit, many int) {
	if many > limit {
		panic(tooMuch(many))
	}
}

// changed returns the solution after a change, and the events, unless it is too much.
func (s solution) changed(change func(w *changing)) (t api.Sol, l []api.SolEvent, e api.Errno) {
	defer func() {
		switch recover().(type) {
		case nil:
		case tooMuch:
			e = api.ErrLong
		default:
			e = api.ErrArg
		}
	}()
	w := &changing{solution: solution{s.program, copyOf(s.Sol)}, does: whatIsDone()}
	change(w)
	return w.Sol, w.events, api.OK
}

// whatIsDone returns what each kind of processes does at once. A process that is done is told like one that waits: by its place, its node, and its environment.
func whatIsDone() map[api.TermOp]func(w *changing, x api.SolWait) {
	return map[api.TermOp]func(w *changing, x api.SolWait){
		api.TermNil:   (*changing).nothing,
		api.TermSend:  (*changing).send,
		api.TermPar:   (*changing).both,
		api.TermDef:   (*changing).define,
		api.TermIf:    (*changing).choose,
		api.TermGo:    (*changing).wait,
		api.TermStop:  (*changing).wait,
		api.TermWatch: (*changing).wait,
	}
}

// begin makes the solution at first.
func (w *changing) begin() {
	var env []api.SolVal
	for i := range w.Free {
		env = append(env, api.SolVal{Kind: api.SolFree, N: i})
	}
	w.do(w.Main, 0, env)
}

// run takes a step for each number.
func (w *changing) run(picks []int) {
	for _, n := range picks {
		many := w.count()
		if many == 0 {
			return
		}
		w.step(w.nth(max(n, 0) % many))
	}
}

func (w *changing) tell(x api.SolEvent) { w.events = append(w.events, x) }

// step does one of the steps.
func (w *changing) step(x api.SolStep) {
	w.done = 0
	if x.Wait == byRule {
		w.react(x)
		return
	}
	p := w.Waits[x.Wait]
	w.Waits = slices.Delete(w.Waits, x.Wait, x.Wait+1)
	n := w.Nodes[p.Node]
	switch n.Op {
	case api.TermStop:
		w.tell(api.SolEvent{Deed: api.SolDied, At: p.At})
		w.stop(p.At)
		return
	case api.TermGo:
		w.Spots[p.At].In = p.Env[n.N].N
		w.tell(api.SolEvent{Deed: api.SolWent, At: p.At, N: p.Env[n.N].N})
	case api.TermWatch:
		w.tell(api.SolEvent{Deed: api.SolTold, At: p.At, N: p.Env[n.N].N})
	}
	w.do(n.Kids[0], p.At, p.Env)
}

// stop makes a place dead, with all that is within it.
func (w *changing) stop(place int) {
	for _, b := range within(w.Spots, place) {
		w.Spots[b].Dead = true
	}
	w.Waits = slices.DeleteFunc(w.Waits, func(x api.SolWait) bool { return w.Spots[x.At].Dead })
	for i, c := range w.Chans {
		if w.Spots[c.At].Dead {
			w.Chans[i].Queue = nil
		}
	}
}

// react takes the messages of a step of a rule, and does its node.
func (w *changing) react(x api.SolStep) {
	var vals []api.SolVal
	for i, c := range w.taken(x) {
		pick, queue := x.Picks[i], w.Chans[c].Queue
		vals = append(vals, queue[pick].Vals...)
		w.Chans[c].Queue = slices.Delete(queue, pick, pick+1)
	}
	at := w.place(x.Group, w.rule(x).At)
	w.tell(api.SolEvent{Deed: api.SolTook, At: at, N: x.Group, M: x.Rule, Vals: vals})
	w.do(w.rule(x).Node, at, slices.Concat(w.Groups[x.Group].Env, vals))
}

// do does a process at once: a node, in a place that lives, with an environment.
// The limit is never met, as a program has fewer nodes and a step does none of them twice; it is asked for because the chapter names it.
func (w *changing) do(node, at int, env []api.SolVal) {
	w.done++
	atMost(api.SolWork, w.done)
	w.does[w.Nodes[node].Op](w, api.SolWait{At: at, Node: node, Env: env})
}

func (w *changing) nothing(api.SolWait) {}

// send says something, or puts a message into a queue, or loses it.
func (w *changing) send(x api.SolWait) {
	n := w.Nodes[x.Node]
	vals := make([]api.SolVal, len(n.Args))
	for i, a := range n.Args {
		vals[i] = value(a, x.Env)
	}
	switch to := x.Env[n.N]; to.Kind {
	case api.SolFree:
		w.tell(api.SolEvent{Deed: api.SolSaid, At: x.At, N: to.N, Vals: vals})
	case api.SolChan:
		c := &w.Chans[to.N]
		if w.Spots[c.At].Dead || w.def(c.Group).Chans[c.Index].Many != len(vals) {
			return
		}
		c.Queue = append(c.Queue, api.SolMsg{Vals: vals})
		atMost(api.SolQueue, len(c.Queue))
	}
}

func (w *changing) both(x api.SolWait) {
	for _, k := range w.Nodes[x.Node].Kids {
		w.do(k, x.At, x.Env)
	}
}

// define makes a group, and does what is in its places, and its Kid.
func (w *changing) define(x api.SolWait) {
	n, group := w.Nodes[x.Node], len(w.Groups)
	d := w.Defs[n.N]
	env := slices.Concat(x.Env, owned(d, len(w.Chans), len(w.Spots)))
	w.Groups = append(w.Groups, api.SolGroup{Def: n.N, At: x.At, Env: env})
	for i, c := range d.Chans {
		w.Chans = append(w.Chans, api.SolQ{Group: group, Index: i, At: w.place(group, c.At)})
	}
	for _, s := range d.Spots {
		w.Spots = append(w.Spots, api.SolSpot{In: w.place(group, s.In)})
	}
	atMost(api.SolGroups, len(w.Groups))
	atMost(api.SolChans, len(w.Chans))
	atMost(api.SolSpots, len(w.Spots))
	for i, s := range d.Spots {
		w.do(s.Node, w.place(group, i+1), env)
	}
	w.do(n.Kids[0], x.At, env)
}

// choose does one of two processes.
func (w *changing) choose(x api.SolWait) {
	n := w.Nodes[x.Node]
	kid := n.Kids[0]
	if integer(value(n.Args[0], x.Env)) == 0 {
		kid = n.Kids[1]
	}
	w.do(kid, x.At, x.Env)
}

func (w *changing) wait(x api.SolWait) {
	x.Env = slices.Clone(x.Env)
	w.Waits = append(w.Waits, x)
	atMost(api.SolWaits, len(w.Waits))
}
