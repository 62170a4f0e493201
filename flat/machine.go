package flat

import (
	"slices"

	"cabotage/api"
	"cabotage/sol"
)

// deed is what a node does at once. A process that is done is told like one that waits: by its place, its node, and the values of the node's list.
type deed func(m *machine, x api.SolWait)

// machine is a flat solution that is being changed: no list of it shares memory with another one, or with an argument.
type machine struct {
	solution
	events []api.SolEvent
	done   int // how many processes the step has done at once
	deeds  [api.TermWatch + 1]deed
}

func machineOf(s solution) *machine {
	return &machine{solution: solution{s.program, copyOf(s.Sol)}, deeds: deeds()}
}

// deeds returns what each kind of nodes does at once.
func deeds() [api.TermWatch + 1]deed {
	return [...]deed{
		api.TermNil:   (*machine).nothing,
		api.TermSend:  (*machine).send,
		api.TermPar:   (*machine).both,
		api.TermDef:   (*machine).define,
		api.TermIf:    (*machine).choose,
		api.TermGo:    (*machine).wait,
		api.TermStop:  (*machine).wait,
		api.TermWatch: (*machine).wait,
	}
}

// changed returns what a machine has become, and the events, or the error with which it gave up.
func changed(work func() *machine) (api.Sol, []api.SolEvent, api.Errno) {
	m, e := attempt(work)
	if e != api.OK {
		return api.Sol{}, nil, e
	}
	return m.Sol, m.events, api.OK
}

// begin makes the flat solution at first.
func (m *machine) begin() {
	var env []api.SolVal
	for _, i := range m.Take {
		env = append(env, api.SolVal{Kind: api.SolFree, N: i})
	}
	m.do(m.Main, 0, env)
}

// run takes a step for each number.
func (m *machine) run(picks []int) {
	for _, n := range picks {
		many := m.count()
		if many == 0 {
			return
		}
		m.step(m.nth(max(n, 0) % many))
	}
}

func (m *machine) tell(x api.SolEvent) { m.events = append(m.events, x) }

// step does one of the steps.
func (m *machine) step(x api.SolStep) {
	m.done = 0
	if x.Wait == byRule {
		m.react(x)
		return
	}
	p := m.Waits[x.Wait]
	m.Waits = slices.Delete(m.Waits, x.Wait, x.Wait+1)
	n := m.Nodes[p.Node]
	switch n.Op {
	case api.TermStop:
		m.tell(api.SolEvent{Deed: api.SolDied, At: p.At})
		m.stop(p.At)
		return
	case api.TermGo:
		m.Spots[p.At].In = p.Env[n.N].N
		m.tell(api.SolEvent{Deed: api.SolWent, At: p.At, N: p.Env[n.N].N})
	case api.TermWatch:
		m.tell(api.SolEvent{Deed: api.SolTold, At: p.At, N: p.Env[n.N].N})
	}
	m.do(n.Kids[0], p.At, p.Env)
}

// stop makes a place dead, with all that is within it.
func (m *machine) stop(place int) {
	l, _ := sol.Within(m.Sol, place)
	for _, b := range l {
		m.Spots[b].Dead = true
	}
	m.Waits = slices.DeleteFunc(m.Waits, func(x api.SolWait) bool { return m.Spots[x.At].Dead })
	for i, c := range m.Chans {
		if m.Spots[c.At].Dead {
			m.Chans[i].Queue = nil
		}
	}
}

// react takes the messages of a step of a rule, and does its node.
func (m *machine) react(x api.SolStep) {
	var vals []api.SolVal
	for i, c := range m.queues(x) {
		pick, queue := x.Picks[i], m.Chans[c].Queue
		vals = append(vals, queue[pick].Vals...)
		m.Chans[c].Queue = slices.Delete(queue, pick, pick+1)
	}
	r := m.rule(x)
	at := m.place(x.Group, r.At)
	m.tell(api.SolEvent{Deed: api.SolTook, At: at, N: x.Group, M: x.Rule, Vals: vals})
	m.do(r.Node, at, slices.Concat(m.Groups[x.Group].Env, vals))
}

// do does a process at once: a node, in a place that lives, with the values of its list.
// The limit is never met, as a program has fewer nodes and a step does none of them twice; it is asked for because the chapter names it.
func (m *machine) do(node, at int, env []api.SolVal) {
	m.done++
	atMost(api.SolWork, m.done)
	m.deeds[m.Nodes[node].Op](m, api.SolWait{At: at, Node: node, Env: env})
}

func (m *machine) nothing(api.SolWait) {}

// send says something, or puts a message into a queue, or loses it.
func (m *machine) send(x api.SolWait) {
	n := m.Nodes[x.Node]
	vals := make([]api.SolVal, len(n.Args))
	for i, a := range n.Args {
		vals[i], _ = sol.Value(a, x.Env)
	}
	switch to := x.Env[n.N]; to.Kind {
	case api.SolFree:
		m.tell(api.SolEvent{Deed: api.SolSaid, At: x.At, N: to.N, Vals: vals})
	case api.SolChan:
		c := &m.Chans[to.N]
		if m.Spots[c.At].Dead || m.def(c.Group).Chans[c.Index].Many != len(vals) {
			return
		}
		c.Queue = append(c.Queue, api.SolMsg{Vals: vals})
		atMost(api.SolQueue, len(c.Queue))
	}
}

func (m *machine) both(x api.SolWait) {
	for _, k := range m.Nodes[x.Node].Kids {
		m.do(k, x.At, x.Env)
	}
}

// define makes a group with what it takes, and does what is in its places, and its Kid, which has the whole list.
func (m *machine) define(x api.SolWait) {
	n, group := m.Nodes[x.Node], len(m.Groups)
	d := m.Defs[n.N]
	own := owned(d, len(m.Chans), len(m.Spots))
	env := slices.Concat(chosen(x.Env, n.Take), own)
	m.Groups = append(m.Groups, api.SolGroup{Def: n.N, At: x.At, Env: env})
	for i, c := range d.Chans {
		m.Chans = append(m.Chans, api.SolQ{Group: group, Index: i, At: m.place(group, c.At)})
	}
	for _, s := range d.Spots {
		m.Spots = append(m.Spots, api.SolSpot{In: m.place(group, s.In)})
	}
	atMost(api.SolGroups, len(m.Groups))
	atMost(api.SolChans, len(m.Chans))
	atMost(api.SolSpots, len(m.Spots))
	for i, s := range d.Spots {
		m.do(s.Node, m.place(group, i+1), env)
	}
	m.do(n.Kids[0], x.At, slices.Concat(x.Env, own))
}

// owned returns the own channels and places of a group, if they begin with these numbers.
func owned(d api.ScopeDef, channel, place int) []api.SolVal {
	var l []api.SolVal
	for i := range d.Chans {
		l = append(l, api.SolVal{Kind: api.SolChan, N: channel + i})
	}
	for i := range d.Spots {
		l = append(l, api.SolVal{Kind: api.SolPlace, N: place + i})
	}
	return l
}

// choose does one of two processes.
func (m *machine) choose(x api.SolWait) {
	n := m.Nodes[x.Node]
	kid := n.Kids[1]
	if v, _ := sol.Value(n.Args[0], x.Env); v.Kind == api.SolInt && v.N != 0 {
		kid = n.Kids[0]
	}
	m.do(kid, x.At, x.Env)
}

// wait puts a process with what it takes behind all others.
func (m *machine) wait(x api.SolWait) {
	x.Env = chosen(x.Env, m.Nodes[x.Node].Take)
	m.Waits = append(m.Waits, x)
	atMost(api.SolWaits, len(m.Waits))
}
