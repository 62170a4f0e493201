package flat_test

import (
	"math/rand"
	"testing"

	"cabotage/api"
	"cabotage/flat"
	"cabotage/internal/sample"
)

// shut is the flat program of example, as the chapter says it.
func shut() api.FlatProg {
	name := func(n int) api.ScopeExp { return api.ScopeExp{Op: api.TermName, N: n} }
	num := func(n int) api.ScopeExp { return api.ScopeExp{Op: api.TermInt, N: n} }
	return api.FlatProg{
		Free: []string{"log", "out"}, Take: []int{0, 1},
		Nodes: []api.FlatNode{
			{Op: api.TermDef, Kids: []int{3}, Take: []int{1}},
			{Op: api.TermSend, Args: []api.ScopeExp{name(4)}},
			{Op: api.TermStop},
			{Op: api.TermGo, N: 2, Kids: []int{4}, Take: []int{0, 2, 4}},
			{Op: api.TermPar, Kids: []int{5, 6}},
			{Op: api.TermSend, N: 1, Args: []api.ScopeExp{num(1)}},
			{Op: api.TermSend, Args: []api.ScopeExp{num(2)}},
		},
		Defs: []api.ScopeDef{{
			Chans: []api.ScopeChan{{Many: 1}, {}},
			Spots: []api.ScopeSpot{{Node: 2}},
			Rules: []api.ScopeRule{{Joins: []int{0, 1}, Node: 1}},
		}},
	}
}

// loose is shut, but its TermDef takes log as well.
func loose() api.FlatProg {
	f := shut()
	f.Nodes[0].Take = []int{0, 1}
	f.Nodes[1].N = 1
	f.Nodes[1].Args[0].N = 5
	return f
}

// P7.1 and P7.2: the examples of the chapter.
func TestExamples(t *testing.T) {
	p := program(example)
	if f, e := flat.Flat(p); e != api.OK || written(f) != written(shut()) || takes(f) != "[0 1] | 0 [1] 3 [0 2 4]" {
		t.Error(f, e)
	}
	for i, x := range []struct {
		f     api.FlatProg
		lists string
		spare int
	}{
		{shut(), "0 [0 1] 1 [1 2 3 4 5] 2 [1 2 3 4] 3 [0 1 2 3 4] 4 [0 2 4] 5 [0 2 4] 6 [0 2 4]", 0},
		{loose(), "0 [0 1] 1 [0 1 2 3 4 5] 2 [0 1 2 3 4] 3 [0 1 2 3 4] 4 [0 2 4] 5 [0 2 4] 6 [0 2 4]", 1},
	} {
		if l, e := flat.Lists(x.f); e != api.OK || listed(l) != x.lists || flat.Check(x.f) != api.OK {
			t.Error(i, l, e)
		}
		if q, e := flat.Open(x.f); e != api.OK || written(q) != written(p) {
			t.Error(i, q, e)
		}
		if n, e := flat.Spare(x.f); e != api.OK || n != x.spare {
			t.Error(i, n, e)
		}
	}
}

// P7.1 and P7.2: what is taken of sources, and the lists of their nodes.
func TestSources(t *testing.T) {
	for _, x := range []struct{ source, takes, lists string }{
		{"0", "[] |", ""},
		{"stop", "[] |", ""},
		{"out(1)", "[0] |", "0 [0]"},
		{"if out == 1 then 0 else q(log)", "[0 1 2] |", "0 [0 1 2] 1 [0 1 2] 2 [0 1 2]"},
		// Each process that waits takes what it asks for, and what those below it do.
		{"go q; out(q)", "[0 1] | 0 [0 1]", "0 [0 1] 1 [0 1]"},
		{"go q; go r; watch s; out(1)", "[0 1 2 3] | 0 [0 1 2 3] 1 [0 2 3] 2 [0 2]", "0 [0 1 2 3] 1 [0 1 2 3] 2 [0 2 3] 3 [0 3]"},
		// A definition takes what its rules and places ask for; not what its Kid does.
		{"def x(a, b) & y(c) = out(c) | x(b, a) in 0", "[0] | 0 [0]", "0 [0] 1 [0 1 2 3 4 5] 2 [0 1 2 3 4 5] 3 [0 1 2 3 4 5] 4 [0 1 2]"},
		{"def x() = 0 in def y() = 0 in def z() = y() in x()", "[] | 4 [1]", "1 [0] 2 [0] 3 [1] 4 [0 1] 5 [1 2] 6 [0 1 2]"},
		{"go q; def x() = out(q) in go r; (x() | log())", "[0 1 2 3] | 0 [0 1 2 3] 1 [1 2] 3 [0 3 4]", "0 [0 1 2 3] 1 [0 1 2 3] 2 [1 2 4] 3 [0 1 2 3 4] 4 [0 3 4] 5 [0 3 4] 6 [0 3 4]"},
		// Definitions in rules: of what is bound around them.
		{"def x(a) = (def y(b) = out(a) in y(1)) in x(2)", "[0] | 0 [0] 1 [0 2]", "0 [0] 1 [0 1 2] 2 [0 2 3 4] 3 [0 1 2 3] 4 [0 1]"},
		{"def x(a) = (def y(b) = q(b) in y(a)) in x(2)", "[0] | 0 [0] 1 [0]", "0 [0] 1 [0 1 2] 2 [0 3 4] 3 [0 1 2 3] 4 [0 1]"},
		{"def x(a) = (def y(b) = x(b) in a(y, x)) in x(2)", "[] | 1 [0]", "1 [0 1] 2 [0 2 3] 3 [0 1 2] 4 [0]"},
		{"watch q; def x(a) = watch a; def y(b) = watch b; log(a) in y(q) in x(out)", "[0 1 2] | 0 [0 1 2] 1 [0 2] 2 [0 1 3] 3 [0 2] 4 [0 1 3]", "0 [0 1 2] 1 [0 1 2] 2 [0 2 3 4] 3 [0 2 4] 4 [0 4 5 6] 5 [0 4 6] 6 [0 2 4 5] 7 [0 1 2 3]"},
		// Places, and places in places.
		{"def place p { x(a) = go q; log(a) in watch q; out(x) } and place q { place r { in stop } in watch p; out(r) } in 0", "[0 1] | 0 [0 1] 1 [0 4 6] 3 [1 2 4] 5 [1 3 5]", "0 [0 1] 1 [0 1 2 3 4 5 6] 2 [0 4 6] 3 [0 1 2 3 4 5] 4 [1 2 4] 5 [0 1 2 3 4 5] 6 [1 3 5] 7 [0 1 2 3 4 5] 8 [0 1 2 3 4 5]"},
		{"def place p { in (def place q { in go p; 0 } in go q; 0) } in 0", "[] | 1 [0] 2 [0] 4 [1]", "1 [0] 2 [0 1] 3 [0] 4 [0 1] 5 [1] 6 [0]"},
	} {
		p := program(x.source)
		f, e := flat.Flat(p)
		if e != api.OK || takes(f) != x.takes {
			t.Error(x.source, takes(f), e)
		}
		if l, e := flat.Lists(f); e != api.OK || listed(l) != x.lists {
			t.Error(x.source, listed(l), e)
		}
		if q, e := flat.Open(f); e != api.OK || written(q) != written(p) {
			t.Error(x.source, q, e)
		}
		if n, e := flat.Spare(f); e != api.OK || n != 0 {
			t.Error(x.source, n, e)
		}
	}
}

// P7.2: what is not needed of the free names is not taken, and is spare if it is.
func TestFreeNotNeeded(t *testing.T) {
	p := program("go q; out(1)")
	p.Free = []string{"a", "out", "q", "z"}
	p.Nodes[0].N, p.Nodes[1].N = 2, 1
	f, e := flat.Flat(p)
	if e != api.OK || takes(f) != "[1 2] | 0 [0 1]" || f.Nodes[0].N != 1 || f.Nodes[1].N != 0 {
		t.Error(f, e)
	}
	for i, x := range []struct {
		f     api.FlatProg
		spare int
	}{
		{f, 0},
		{api.FlatProg{Free: p.Free, Take: []int{0, 1, 2, 3}, Nodes: []api.FlatNode{{Op: api.TermGo, N: 1, Kids: []int{1}, Take: []int{1, 2}}, {Op: api.TermSend, Args: p.Nodes[1].Args}}}, 2},
		{api.FlatProg{Free: p.Free, Take: []int{1, 2, 3}, Nodes: []api.FlatNode{{Op: api.TermGo, N: 1, Kids: []int{1}, Take: []int{0, 1, 2}}, {Op: api.TermSend, Args: p.Nodes[1].Args}}}, 2},
		{api.FlatProg{Free: p.Free, Take: []int{0, 1, 2, 3}, Nodes: []api.FlatNode{{Op: api.TermGo, N: 2, Kids: []int{1}, Take: []int{0, 1, 2, 3}}, {Op: api.TermSend, N: 1, Args: p.Nodes[1].Args}}}, 4},
	} {
		if n, e := flat.Spare(x.f); e != api.OK || n != x.spare {
			t.Error(i, n, e)
		}
		if q, e := flat.Open(x.f); e != api.OK || written(q) != written(p) {
			t.Error(i, q, e)
		}
	}
}

// P7.2: programs that are not formed.
func TestFlatRefused(t *testing.T) {
	for i, p := range sample.Unformed(example) {
		if f, e := flat.Flat(p); e != api.ErrArg || written(f) != written(api.FlatProg{}) {
			t.Error(i, f, e)
		}
	}
}

// P7.1 and P7.2: flat programs that take the least, or more, of programs by chance; those that are not in order too.
func TestProgramsOfMade(t *testing.T) {
	spare := 0
	flats(t, 1500, func(seed int64, r *rand.Rand, p api.ScopeProg, x takings, f api.FlatProg) {
		heldAgainst(t, f)
		if q, e := flat.Open(f); e != api.OK || written(q) != written(p) {
			t.Fatal(seed, f, q, e)
		}
		u := treeOf(p)
		n, e := flat.Spare(f)
		if e != api.OK || n != x.count()-u.least().count() {
			t.Fatal(seed, f, n, e)
		}
		spare += n
		q, e := flat.Flat(p)
		if e != api.OK || written(q) != written(u.laid(u.least())) || (n == 0) != (written(q) == written(f)) {
			t.Fatal(seed, p, q, e)
		}
		if n, e := flat.Spare(q); n != 0 || e != api.OK {
			t.Fatal(seed, q, n, e)
		}
	})
	if spare < 2000 {
		t.Error("too few:", spare)
	}
}

// P7.2: of all takings of a small program, those with which it can be laid are those that have the least ones.
func TestAllTakings(t *testing.T) {
	for _, source := range []string{"go q; def x(a) = out(a) in stop", "def x(a) = (watch a; out()) in watch q; 0"} {
		p := program(source)
		u := treeOf(p)
		var places [][2]int // of nodes, and of main
		for at := main; at < len(p.Nodes); at++ {
			size := len(p.Free)
			if at != main {
				size = u.size(at)
				if op := p.Nodes[at].Op; op < api.TermDef || op == api.TermIf {
					continue
				}
			}
			for n := range size {
				places = append(places, [2]int{at, n})
			}
		}
		fine := 0
		for bits := range 1 << len(places) {
			x := takings{}
			for i, y := range places {
				if bits>>i&1 == 1 {
					x.add(y[0], y[1])
				}
			}
			f := u.laid(x)
			is := x.has(u.least()) && formed(f)
			if e := flat.Check(f); (e == api.OK) != is {
				t.Fatal(source, x, f, e)
			}
			fine += number(is)
		}
		if fine < 4 || len(places) > 18 {
			t.Error(source, fine, len(places))
		}
	}
}
