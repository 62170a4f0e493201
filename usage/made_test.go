package usage_test

import (
	"math/rand"
	"slices"
	"strings"
	"testing"

	"cabotage/api"
	"cabotage/read"
	"cabotage/scope"
)

// known is a name, and how many values its messages bring: -1 for a place, -2 if that is not known.
type known struct {
	text   string
	brings int
}

// writer writes sources by chance, but each time the same ones. Each name is bound once.
type writer struct {
	*rand.Rand
	left, bound int
}

// made returns a program: with odd seeds its nodes, definitions, channels and rules have other numbers.
func made(seed int64) api.ScopeProg {
	r := rand.New(rand.NewSource(seed))
	for {
		w := &writer{r, 4 + r.Intn(16), 0}
		u, e := read.Parse(w.process([]known{{"out", -2}, {"q", -1}}, 6))
		if e != api.OK {
			continue
		}
		if p, e := scope.Bind(u); e == api.OK && len(p.Defs) > 0 && seed%2 == 1 {
			return shuffled(r, p)
		} else if e == api.OK && len(p.Defs) > 0 {
			return p
		}
	}
}

// programs calls f with programs by chance.
func programs(t *testing.T, many int, f func(seed int64, r *rand.Rand, p api.ScopeProg)) {
	t.Helper()
	for seed := int64(0); seed < int64(many) && !t.Failed(); seed++ {
		f(seed, rand.New(rand.NewSource(-1-seed)), made(seed))
	}
}

// fresh returns a name that is not bound yet.
func (w *writer) fresh() string {
	w.bound++
	return "v" + string(rune('a'+w.bound/26)) + string(rune('a'+w.bound%26))
}

func (w *writer) pick(l []known) known { return l[w.Intn(len(l))] }

func (w *writer) exp(l []known) string {
	switch k := w.pick(l).text; w.Intn(9) {
	case 0:
		return "1"
	case 1:
		return k + " == " + w.pick(l).text
	default:
		return k
	}
}

// send writes a message on a name: for the most part with as many values as the channel's messages bring.
func (w *writer) send(to known, l []known) string {
	many := to.brings
	if many < 0 || w.Intn(8) == 0 {
		many = w.Intn(3)
	}
	var args []string
	for range many {
		args = append(args, w.exp(l))
	}
	return to.text + "(" + strings.Join(args, ", ") + ")"
}

func (w *writer) process(l []known, deep int) string {
	w.left--
	k := w.Intn(20)
	if deep == 0 || w.left <= 0 {
		k = w.Intn(8)
	}
	switch {
	case k < 2:
		return []string{"0", "stop"}[w.Intn(2)]
	case k < 8:
		return w.send(w.pick(l), l)
	case k < 10:
		return "(" + []string{"go ", "watch "}[w.Intn(2)] + w.pick(l).text + "; " + w.process(l, deep-1) + ")"
	case k < 12:
		return "(if " + w.exp(l) + " then " + w.process(l, deep-1) + " else " + w.process(l, deep-1) + ")"
	case k < 15:
		return "(" + w.process(l, deep-1) + " | " + w.process(l, deep-1) + ")"
	}
	return w.def(l, deep)
}

// def writes a TermDef: it chooses all names first, as they are around all that it has. Its channels have messages for the most part.
func (w *writer) def(l []known, deep int) string {
	chans, place, inner := w.chans(1+w.Intn(3)), []known(nil), []known(nil)
	if w.Intn(3) == 0 {
		place, inner = []known{{w.fresh(), -1}}, w.chans(w.Intn(2))
	}
	l = slices.Concat(l, chans, place, inner)
	clauses := w.rules(l, chans, deep)
	for _, p := range place {
		clauses = append(clauses, "place "+p.text+" { "+strings.Join(w.rules(l, inner, deep), " and ")+" in "+w.process(l, deep-1)+" }")
	}
	kid := w.process(l, deep-1)
	for _, c := range slices.Concat(chans, inner) {
		for range []int{0, 1, 1, 1, 2}[w.Intn(5)] {
			kid = w.send(c, l) + " | " + kid
		}
	}
	return "(def " + strings.Join(clauses, " and ") + " in " + kid + ")"
}

func (w *writer) chans(many int) []known {
	var l []known
	for range many {
		l = append(l, known{w.fresh(), w.Intn(3)})
	}
	return l
}

// rules writes rules in which each of some channels stands, and perhaps one more rule of some of them.
func (w *writer) rules(l, chans []known, deep int) []string {
	var out []string
	for left := chans; len(left) > 0; {
		many := 1 + w.Intn(min(len(left), 2))
		out = append(out, w.rule(l, left[:many], deep))
		left = left[many:]
	}
	if len(chans) > 0 && w.Intn(3) == 0 {
		var joins []known
		for _, i := range w.Perm(len(chans))[:1+w.Intn(len(chans))] {
			joins = append(joins, chans[i])
		}
		out = append(out, w.rule(l, joins, deep))
	}
	return out
}

func (w *writer) rule(l, joins []known, deep int) string {
	var heads []string
	for _, c := range joins {
		var names []string
		for range c.brings {
			n := w.fresh()
			names = append(names, n)
			l = slices.Concat(l, []known{{n, -2}}, []known{{n, -2}})
		}
		heads = append(heads, c.text+"("+strings.Join(names, ", ")+")")
	}
	return strings.Join(heads, " & ") + " = " + w.process(l, deep-1)
}

// shuffled returns a program that is formed, but not in order: what channels of a definition are called changes.
func shuffled(r *rand.Rand, p api.ScopeProg) api.ScopeProg {
	node, def := r.Perm(len(p.Nodes)), r.Perm(len(p.Defs))
	out := api.ScopeProg{Free: p.Free, Main: node[p.Main], Nodes: make([]api.ScopeNode, len(node)), Defs: make([]api.ScopeDef, len(def))}
	for at, n := range p.Nodes {
		for i := range n.Kids {
			n.Kids[i] = node[n.Kids[i]]
		}
		if n.Op == api.TermDef {
			n.N = def[n.N]
		}
		out.Nodes[node[at]] = n
	}
	for at, d := range p.Defs {
		channel, chans := r.Perm(len(d.Chans)), make([]api.ScopeChan, len(d.Chans))
		for i, c := range d.Chans {
			chans[channel[i]] = c
		}
		for i := range d.Spots {
			d.Spots[i].Node = node[d.Spots[i].Node]
		}
		for i := range d.Rules {
			x := &d.Rules[i]
			x.Node = node[x.Node]
			for k := range x.Joins {
				x.Joins[k] = channel[x.Joins[k]]
			}
		}
		r.Shuffle(len(d.Rules), func(a, b int) { d.Rules[a], d.Rules[b] = d.Rules[b], d.Rules[a] })
		d.Chans = chans
		out.Defs[def[at]] = d
	}
	return out
}

// anyTable returns a table that is as defined for a program.
func anyTable(r *rand.Rand, p api.ScopeProg) []api.UsageDef {
	t := blank(p)
	high := r.Intn(4)
	for _, k := range entries(t) {
		*k.UsageKind = []api.UsageKind{api.UsageNever, api.UsageMost, api.UsageMany, api.UsageMany, api.UsageMany}[r.Intn(3+min(high, 2))]
		if k.chanKind && r.Intn(4) == 0 {
			*k.UsageKind = api.UsageOnce
		}
	}
	return t
}

// What is made is formed, and its tables have all kinds.
func TestMade(t *testing.T) {
	shown, places := "", 0
	programs(t, 300, func(seed int64, r *rand.Rand, p api.ScopeProg) {
		if e := scope.Check(p); e != api.OK {
			t.Error(seed, p, e)
		}
		for _, d := range p.Defs {
			places += len(d.Spots)
		}
		shown += show(judgeOf(p).table(r))
	})
	for _, s := range signs {
		if n := strings.Count(shown, string(s)); n < 150 || places < 100 {
			t.Error("too few", string(s), n, places)
		}
	}
}
