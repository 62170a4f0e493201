package scope_test

import (
	"testing"

	"cabotage/api"
	"cabotage/scope"
)

// spoil overwrites all that a program refers to.
func spoil(p *api.ScopeProg) {
	for i := range p.Free {
		p.Free[i] = "spoilt"
	}
	var exps func(l []api.ScopeExp)
	exps = func(l []api.ScopeExp) {
		for i := range l {
			l[i].Op, l[i].N = 77, 77
			exps(l[i].Kids)
		}
	}
	for i := range p.Nodes {
		n := &p.Nodes[i]
		exps(n.Args)
		spoilInts(n.Kids)
		n.Op, n.N = 77, 77
	}
	for i := range p.Defs {
		d := &p.Defs[i]
		for k := range d.Chans {
			d.Chans[k] = api.ScopeChan{At: 77, Many: 77}
		}
		for k := range d.Spots {
			d.Spots[k] = api.ScopeSpot{In: 77, Node: 77}
		}
		for k := range d.Rules {
			spoilInts(d.Rules[k].Joins)
			d.Rules[k].At, d.Rules[k].Node = 77, 77
		}
	}
}

func spoilInts(l []int) {
	for i := range l {
		l[i] = 77
	}
	// Nothing of another list lies behind this one.
	for i := range l[len(l):cap(l)] {
		l[:cap(l)][len(l)+i] = 77
	}
}

// spoilTerm overwrites all that a process refers to.
func spoilTerm(t *api.Term) {
	var exps func(l []api.TermExp)
	exps = func(l []api.TermExp) {
		for i := range l {
			l[i].Op, l[i].N, l[i].Text = 77, 77, "spoilt"
			exps(l[i].Kids)
		}
	}
	var clauses func(l []api.TermClause)
	clauses = func(l []api.TermClause) {
		for i := range l {
			for k := range l[i].Joins {
				names := l[i].Joins[k].Names
				names = names[:cap(names)]
				for n := range names {
					names[n] = "spoilt"
				}
				l[i].Joins[k].Text = "spoilt"
			}
			clauses(l[i].Defs)
			for k := range l[i].Kids {
				spoilTerm(&l[i].Kids[k])
			}
			l[i].Form, l[i].Text = 77, "spoilt"
		}
	}
	exps(t.Args)
	clauses(t.Defs)
	for i := range t.Kids {
		spoilTerm(&t.Kids[i])
	}
	t.Op, t.Text = 77, "spoilt"
}

const large = "def x(a, c) & y(d) & w(e) = z(a + 1, b) | 0 and place p { u(c, d) & v(e) = z(c, b) and place q { in 0 } in go q; x(1, 2) } in (y(1) | 0) | watch p; if 1 < b then x(b * 2, z) else stop"

// No result shares memory with an argument (R4), and no argument is changed.
func TestMemory(t *testing.T) {
	fresh := func() api.ScopeProg {
		p, e := scope.Bind(process(large))
		if e != api.OK {
			t.Fatal(e)
		}
		return p
	}
	u := process(large)
	p, _ := scope.Bind(u)
	if !same(u, process(large)) {
		t.Error("Bind has changed its argument:", u)
	}
	spoilTerm(&u)
	if !same(p, fresh()) {
		t.Error("Bind shares memory with its argument:", p)
	}
	u = process(large)
	p, _ = scope.Bind(u)
	spoil(&p)
	if !same(u, process(large)) {
		t.Error("Bind shares memory with its argument:", u)
	}
	for i, f := range []func(p api.ScopeProg) (result any, spoilt func()){
		func(p api.ScopeProg) (any, func()) { l, _ := scope.Sizes(p); return l, func() { spoilInts(l) } },
		func(p api.ScopeProg) (any, func()) { l, _ := scope.Needs(p); return l, func() { spoilLists(l) } },
		func(p api.ScopeProg) (any, func()) { l, _ := scope.Below(p); return l, func() { spoilLists(l) } },
		func(p api.ScopeProg) (any, func()) { u, _ := scope.Term(p); return &u, func() { spoilTerm(&u) } },
	} {
		p := fresh()
		result, spoilt := f(p)
		was := written(result)
		if !same(p, fresh()) {
			t.Error(i, "the argument has become", p)
		}
		spoilt()
		if !same(p, fresh()) || written(result) == was {
			t.Error(i, "the argument shares memory with the result")
		}
		result, _ = f(p)
		if written(result) != was {
			t.Error(i, "a second call has another result")
		}
		spoil(&p)
		if written(result) != was {
			t.Error(i, "the result shares memory with the argument")
		}
	}
}

// written writes a result; a process is behind a pointer, so that it can be spoilt.
func written(result any) string {
	if u, ok := result.(*api.Term); ok {
		return text(*u)
	}
	return text(result)
}

func spoilLists(l [][]int) {
	for i := range l {
		spoilInts(l[i])
	}
}

// The lists of a result share no memory with each other (R4): what is overwritten of one of them, and behind it, is in no other one.
func TestMemoryOfLists(t *testing.T) {
	p, _ := scope.Bind(process(large))
	for i, f := range []func(api.ScopeProg) ([][]int, api.Errno){scope.Needs, scope.Below} {
		want, _ := f(p)
		for k := range want {
			l, _ := f(p)
			spoilInts(l[k])
			l[k] = want[k]
			if !same(l, want) {
				t.Error(i, k, l)
			}
		}
	}
	q, _ := scope.Bind(process(large))
	for k := range q.Nodes {
		spoilInts(q.Nodes[k].Kids)
		q.Nodes[k].Kids = p.Nodes[k].Kids
	}
	for k := range q.Defs[0].Rules {
		spoilInts(q.Defs[0].Rules[k].Joins)
		q.Defs[0].Rules[k].Joins = p.Defs[0].Rules[k].Joins
	}
	if !same(p, q) {
		t.Error(q)
	}
	for k := range 3 {
		u, _ := scope.Term(p)
		v, _ := scope.Term(p)
		joins := u.Defs[0].Joins
		names := append(joins[k].Names, "spoilt", "spoilt")
		names[0] = "spoilt"
		joins[k].Names[0] = v.Defs[0].Joins[k].Names[0]
		if !same(u, v) {
			t.Error(u)
		}
	}
}
