package scope_test

import (
	"fmt"
	"math/rand"
	"slices"
	"strings"
	"testing"

	"cabotage/api"
	"cabotage/read"
	"cabotage/scope"
)

// example is the process T of the chapter.
const example = "def x(a) & y() = z(a, b) and place p { in go q; x(1) } in y() | watch p; 0"

// process is what a source says.
func process(s string) api.Term {
	t, e := read.Parse(s)
	if e != api.OK {
		panic(fmt.Sprint(s, ": ", e))
	}
	return t
}

// text writes all that there is in a value, nil and empty lists alike: it is compared by this text.
func text(x any) string {
	return strings.ReplaceAll(fmt.Sprintf("%#v", x), "(nil)", "{}")
}

func same(a, b any) bool { return text(a) == text(b) }

func name(n int) api.ScopeExp { return api.ScopeExp{Op: api.TermName, N: n} }

func num(n int) api.ScopeExp { return api.ScopeExp{Op: api.TermInt, N: n} }

func sum(a, b api.ScopeExp) api.ScopeExp {
	return api.ScopeExp{Op: api.TermAdd, Kids: []api.ScopeExp{a, b}}
}

func node(op api.TermOp, n int, kids ...int) api.ScopeNode {
	return api.ScopeNode{Op: op, N: n, Kids: kids}
}

func stop() api.ScopeNode { return node(api.TermStop, 0) }

// program is that of T, as the chapter has it.
func program() api.ScopeProg {
	return api.ScopeProg{
		Free: []string{"b", "q", "z"},
		Nodes: []api.ScopeNode{
			node(api.TermDef, 0, 4), {Op: api.TermSend, N: 2, Args: []api.ScopeExp{name(6), name(0)}},
			node(api.TermGo, 1, 3), {Op: api.TermSend, N: 3, Args: []api.ScopeExp{num(1)}},
			node(api.TermPar, 0, 5, 6), node(api.TermSend, 4), node(api.TermWatch, 5, 7), node(api.TermNil, 0),
		},
		Defs: []api.ScopeDef{{
			Chans: []api.ScopeChan{{Many: 1}, {}},
			Spots: []api.ScopeSpot{{Node: 2}},
			Rules: []api.ScopeRule{{Joins: []int{0, 1}, Node: 1}},
		}},
	}
}

// copied returns a program that shares no memory with p.
func copied(p api.ScopeProg) api.ScopeProg {
	var exps func(l []api.ScopeExp) []api.ScopeExp
	exps = func(l []api.ScopeExp) []api.ScopeExp {
		l = slices.Clone(l)
		for i := range l {
			l[i].Kids = exps(l[i].Kids)
		}
		return l
	}
	p.Free, p.Nodes, p.Defs = slices.Clone(p.Free), slices.Clone(p.Nodes), slices.Clone(p.Defs)
	for i, n := range p.Nodes {
		p.Nodes[i].Args, p.Nodes[i].Kids = exps(n.Args), slices.Clone(n.Kids)
	}
	for i, d := range p.Defs {
		d.Chans, d.Spots, d.Rules = slices.Clone(d.Chans), slices.Clone(d.Spots), slices.Clone(d.Rules)
		for k := range d.Rules {
			d.Rules[k].Joins = slices.Clone(d.Rules[k].Joins)
		}
		p.Defs[i] = d
	}
	return p
}

// link is how a node stands below another one: how many places its environment has more. Main stands below -1.
type link struct{ above, below, more int }

// links returns all of them; nodes and definitions that there are not are left out.
func links(p api.ScopeProg) []link {
	l := []link{{-1, p.Main, len(p.Free)}}
	for i, n := range p.Nodes {
		more := 0
		if n.Op == api.TermDef && n.N >= 0 && n.N < len(p.Defs) {
			d := p.Defs[n.N]
			more = len(d.Chans) + len(d.Spots)
			for _, r := range d.Rules {
				values := more
				for _, j := range r.Joins {
					if j >= 0 && j < len(d.Chans) {
						values += d.Chans[j].Many
					}
				}
				l = append(l, link{i, r.Node, values})
			}
			for _, s := range d.Spots {
				l = append(l, link{i, s.Node, more})
			}
		}
		for _, k := range n.Kids {
			l = append(l, link{i, k, more})
		}
	}
	return l
}

// above returns the node itself, the one above it, and so on, up to Main, and the size of its environment; nothing if that does not lead to Main.
func above(l []link, at int) (path []int, size int) {
	for at >= 0 {
		i := slices.IndexFunc(l, func(x link) bool { return x.below == at })
		if i < 0 || len(path) > len(l) {
			return nil, 0
		}
		path = append(path, at)
		size += l[i].more
		at = l[i].above
	}
	return path, size
}

// uses returns the places of its environment that stand in a node itself.
func uses(n api.ScopeNode) []int {
	var l []int
	if n.Op == api.TermSend || n.Op == api.TermGo || n.Op == api.TermWatch {
		l = append(l, n.N)
	}
	exps := slices.Clone(n.Args)
	for len(exps) > 0 {
		e := exps[0]
		exps = append(exps[1:], e.Kids...)
		if e.Op == api.TermName {
			l = append(l, e.N)
		}
	}
	return l
}

// facts are what Sizes, Below and Needs return of a program that is formed.
type facts struct {
	sizes        []int
	below, needs [][]int
}

func factsOf(p api.ScopeProg) facts {
	n, l := len(p.Nodes), links(p)
	f := facts{make([]int, n), make([][]int, n), make([][]int, n)}
	for at := range p.Nodes {
		path, size := above(l, at)
		f.sizes[at] = size
		for _, a := range path {
			f.below[a] = append(f.below[a], at)
		}
	}
	for at := range p.Nodes {
		for place := range f.sizes[at] {
			if slices.ContainsFunc(f.below[at], func(k int) bool { return slices.Contains(uses(p.Nodes[k]), place) }) {
				f.needs[at] = append(f.needs[at], place)
			}
		}
	}
	return f
}

// is reports whether there is nothing that does not hold.
func is(l ...bool) bool { return !slices.Contains(l, false) }

func within(n, from, to int) bool { return n >= from && n <= to }

// formed says what the chapter says of a program that is formed, sentence by sentence.
func formed(p api.ScopeProg) bool {
	l := links(p)
	ok := is(len(p.Free) <= 12, len(p.Nodes) <= 60, len(p.Defs) <= 12, slices.IsSorted(p.Free), len(slices.Compact(slices.Clone(p.Free))) == len(p.Free))
	keywords := []string{"and", "def", "else", "go", "if", "in", "place", "stop", "then", "watch"}
	for _, s := range p.Free {
		ok = is(ok, strings.Trim(s, "abcdefghijklmnopqrstuvwxyz") == "", within(len(s), 1, 8), !slices.Contains(keywords, s))
	}
	for _, n := range p.Nodes {
		ok = ok && formedNode(p, n)
	}
	for i, d := range p.Defs {
		of := 0
		for _, n := range p.Nodes {
			if n.Op == api.TermDef && n.N == i {
				of++
			}
		}
		ok = is(ok, of == 1, formedDef(d))
	}
	if len(l) != len(p.Nodes) {
		return false // not as many places for nodes as there are nodes
	}
	for at, n := range p.Nodes {
		path, size := above(l, at)
		ok = is(ok, len(path) > 0, !slices.ContainsFunc(uses(n), func(k int) bool { return !within(k, 0, size-1) }))
	}
	return ok
}

func formedNode(p api.ScopeProg, n api.ScopeNode) bool {
	args, kids := len(n.Args), len(n.Kids)
	for _, e := range n.Args {
		count, depth := measure(e)
		if count > 60 || depth > 12 || !formedExp(e) {
			return false
		}
	}
	switch n.Op {
	case api.TermNil, api.TermStop:
		return is(n.N == 0, args == 0, kids == 0)
	case api.TermSend:
		return is(args <= 3, kids == 0)
	case api.TermPar:
		return is(n.N == 0, args == 0, kids == 2)
	case api.TermDef:
		return is(within(n.N, 0, len(p.Defs)-1), args == 0, kids == 1)
	case api.TermIf:
		return is(n.N == 0, args == 1, kids == 2)
	case api.TermGo, api.TermWatch:
		return is(args == 0, kids == 1)
	}
	return false
}

// measure returns the nodes and the depth of an expression.
func measure(e api.ScopeExp) (count, depth int) {
	count, depth = 1, 1
	for _, k := range e.Kids {
		n, deep := measure(k)
		count, depth = count+n, max(depth, deep+1)
	}
	return count, depth
}

func formedExp(e api.ScopeExp) bool {
	for _, k := range e.Kids {
		if !formedExp(k) {
			return false
		}
	}
	switch {
	case e.Op == api.TermInt:
		return is(within(e.N, -1000000000, 1000000000), len(e.Kids) == 0)
	case e.Op == api.TermName:
		return len(e.Kids) == 0
	}
	return is(e.Op >= api.TermAdd, e.Op <= api.TermSame, e.N == 0, len(e.Kids) == 2)
}

func formedDef(d api.ScopeDef) bool {
	ok := is(len(d.Chans) <= 30, len(d.Spots) <= 30, len(d.Rules) <= 30)
	for _, c := range d.Chans {
		ok = is(ok, within(c.At, 0, len(d.Spots)), within(c.Many, 0, 3))
	}
	for i, s := range d.Spots {
		ok = is(ok, within(s.In, 0, i))
	}
	joined := make([]bool, len(d.Chans))
	for _, r := range d.Rules {
		ok = is(ok, within(r.At, 0, len(d.Spots)), within(len(r.Joins), 1, 3))
		for i, j := range r.Joins {
			if !within(j, 0, len(d.Chans)-1) {
				return false
			}
			ok = is(ok, d.Chans[j].At == r.At, !slices.Contains(r.Joins[i+1:], j))
			joined[j] = true
		}
	}
	return ok && is(joined...)
}

// refused calls all functions with a program that is not formed, and returns their errors; what else they return must be zero.
func refused(t *testing.T, p api.ScopeProg) []api.Errno {
	t.Helper()
	sizes, a := scope.Sizes(p)
	needs, b := scope.Needs(p)
	below, c := scope.Below(p)
	order, d := scope.InOrder(p)
	u, e := scope.Term(p)
	if len(sizes) > 0 || len(needs) > 0 || len(below) > 0 || order || !same(u, api.Term{}) {
		t.Error("results that are not zero:", sizes, needs, below, order, u)
	}
	return []api.Errno{scope.Check(p), a, b, c, d, e}
}

// maker makes programs by chance, but each time the same ones.
type maker struct {
	*rand.Rand
	p    api.ScopeProg
	left int
}

// random returns a program that is in order.
func random(seed int64) api.ScopeProg {
	r := rand.New(rand.NewSource(seed))
	for {
		m := &maker{Rand: r, left: 5 + r.Intn(20)}
		for i := range r.Intn(4) {
			m.p.Free = append(m.p.Free, []string{"b", "cc", "z"}[i])
		}
		m.node(len(m.p.Free), 6)
		if needs := factsOf(m.p).needs[0]; len(needs) == len(m.p.Free) && len(m.p.Nodes) <= 60 {
			return m.p
		}
	}
}

func (m *maker) exp(size, deep int) api.ScopeExp {
	if deep > 1 && m.Intn(4) == 0 {
		op := api.TermAdd + api.TermSign(m.Intn(5))
		return api.ScopeExp{Op: op, Kids: []api.ScopeExp{m.exp(size, deep-1), m.exp(size, deep-1)}}
	}
	if size == 0 || m.Intn(4) == 0 {
		return num(m.Intn(5) - 2)
	}
	return name(m.Intn(size))
}

func (m *maker) node(size, deep int) int {
	at := len(m.p.Nodes)
	m.left--
	n := api.ScopeNode{Op: api.TermOp(1 + m.Intn(8))}
	if m.Intn(3) == 0 {
		n.Op = api.TermDef
	}
	if deep <= 1 || m.left <= 0 {
		n.Op = api.TermSend
	}
	uses := n.Op == api.TermSend || n.Op == api.TermGo || n.Op == api.TermWatch
	if uses && size == 0 {
		n.Op, uses = api.TermStop, false
	}
	if uses {
		n.N = m.Intn(size)
	}
	m.p.Nodes = append(m.p.Nodes, n)
	args, kids := map[api.TermOp]int{api.TermSend: m.Intn(4), api.TermIf: 1}[n.Op], map[api.TermOp]int{api.TermPar: 2, api.TermIf: 2, api.TermDef: 1, api.TermGo: 1, api.TermWatch: 1}[n.Op]
	for range args {
		n.Args = append(n.Args, m.exp(size, 3))
	}
	if n.Op == api.TermDef {
		n.N, size = m.def(size, deep)
	}
	for range kids {
		n.Kids = append(n.Kids, m.node(size, deep-1))
	}
	m.p.Nodes[at] = n
	return at
}

// def makes a definition, and returns its number, and the size of its environment.
func (m *maker) def(size, deep int) (number, inside int) {
	number = len(m.p.Defs)
	m.p.Defs = append(m.p.Defs, api.ScopeDef{})
	var d api.ScopeDef
	in := []int{0} // the last place, and those around it: the next one can stand in each of them
	for i := range m.Intn(4) {
		in = in[:1+m.Intn(len(in))]
		d.Spots = append(d.Spots, api.ScopeSpot{In: in[len(in)-1]})
		in = append(in, i+1)
	}
	var ats []int
	for range 1 + m.Intn(3) {
		ats = append(ats, m.Intn(1+len(d.Spots)))
	}
	slices.Sort(ats)
	for _, at := range ats {
		d.Rules = append(d.Rules, m.rule(&d, at))
	}
	inside = size + len(d.Chans) + len(d.Spots)
	for i, r := range d.Rules {
		values := 0
		for _, j := range r.Joins {
			values += d.Chans[j].Many
		}
		d.Rules[i].Node = m.node(inside+values, deep-1)
	}
	for i := range d.Spots {
		d.Spots[i].Node = m.node(inside, deep-1)
	}
	m.p.Defs[number] = d
	return number, inside
}

// rule makes a rule of channels that there are, and of new ones.
func (m *maker) rule(d *api.ScopeDef, at int) api.ScopeRule {
	r := api.ScopeRule{At: at}
	for range 1 + m.Intn(3) {
		j := m.Intn(len(d.Chans) + 1)
		if j == len(d.Chans) {
			d.Chans = append(d.Chans, api.ScopeChan{At: at, Many: m.Intn(4)})
		}
		if d.Chans[j].At == at && !slices.Contains(r.Joins, j) {
			r.Joins = append(r.Joins, j)
		}
	}
	if len(r.Joins) == 0 {
		d.Chans = append(d.Chans, api.ScopeChan{At: at, Many: m.Intn(4)})
		r.Joins = []int{len(d.Chans) - 1}
	}
	return r
}

// each calls f with programs that are in order.
func each(t *testing.T, f func(r *rand.Rand, p api.ScopeProg)) {
	for seed := int64(0); seed < 800 && !t.Failed(); seed++ {
		f(rand.New(rand.NewSource(seed)), random(seed))
	}
}

// shuffled returns a program with the same definitions as p, but with other numbers, in which channels, places and rules are exchanged: it is formed, but says something else.
func shuffled(r *rand.Rand, p api.ScopeProg) api.ScopeProg {
	p = copied(p)
	for k := range p.Defs {
		d := &p.Defs[k]
		exchange(r, len(d.Rules), func(a, b int) { d.Rules[a], d.Rules[b] = d.Rules[b], d.Rules[a] })
		exchange(r, len(d.Chans), func(a, b int) {
			d.Chans[a], d.Chans[b] = d.Chans[b], d.Chans[a]
			for _, x := range d.Rules {
				for i, j := range x.Joins {
					if j == a {
						x.Joins[i] = b
					} else if j == b {
						x.Joins[i] = a
					}
				}
			}
		})
		for i := range d.Spots {
			if r.Intn(4) == 0 {
				d.Spots[i].In = r.Intn(i + 1)
			}
		}
	}
	if r.Intn(3) == 0 {
		p.Free = append(p.Free, "zz")
		for at := range p.Nodes {
			p.Nodes[at] = moved(p.Nodes[at], len(p.Free)-1)
		}
	}
	if r.Intn(2) == 0 {
		renumber(r, &p)
	}
	return p
}

// moved returns a node in whose environment there is one more place.
func moved(n api.ScopeNode, place int) api.ScopeNode {
	var exp func(e *api.ScopeExp)
	exp = func(e *api.ScopeExp) {
		if e.Op == api.TermName && e.N >= place {
			e.N++
		}
		for i := range e.Kids {
			exp(&e.Kids[i])
		}
	}
	for i := range n.Args {
		exp(&n.Args[i])
	}
	if (n.Op == api.TermSend || n.Op == api.TermGo || n.Op == api.TermWatch) && n.N >= place {
		n.N++
	}
	return n
}

func exchange(r *rand.Rand, n int, swap func(a, b int)) {
	if n > 1 && r.Intn(3) == 0 {
		if a, b := r.Intn(n), r.Intn(n); a != b {
			swap(a, b)
		}
	}
}

// renumber gives other numbers to nodes and definitions.
func renumber(r *rand.Rand, p *api.ScopeProg) {
	node, def := r.Perm(len(p.Nodes)), r.Perm(len(p.Defs))
	nodes, defs := make([]api.ScopeNode, len(node)), make([]api.ScopeDef, len(def))
	for i, n := range p.Nodes {
		for k := range n.Kids {
			n.Kids[k] = node[n.Kids[k]]
		}
		if n.Op == api.TermDef {
			n.N = def[n.N]
		}
		nodes[node[i]] = n
	}
	for i, d := range p.Defs {
		for k := range d.Rules {
			d.Rules[k].Node = node[d.Rules[k].Node]
		}
		for k := range d.Spots {
			d.Spots[k].Node = node[d.Spots[k].Node]
		}
		defs[def[i]] = d
	}
	p.Main, p.Nodes, p.Defs = node[p.Main], nodes, defs
}
