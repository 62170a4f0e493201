package flat_test

import (
	"math/rand"
	"slices"
	"testing"

	"cabotage/api"
	"cabotage/flat"
	"cabotage/internal/sample"
	"cabotage/scope"
)

// refused reports whether each function returns ErrArg for a flat program, and nothing else, whatever else is wrong.
func refused(f api.FlatProg, s api.Sol) bool {
	lists, e0 := flat.Lists(f)
	p, e1 := flat.Open(f)
	spare, e2 := flat.Spare(f)
	first, said, e3 := flat.First(f)
	of, e4 := flat.Of(f, s)
	for _, e := range []api.Errno{flat.Check(f), e0, e1, e2, e3, e4} {
		if e != api.ErrArg {
			return false
		}
	}
	return len(lists)+len(said)+spare == 0 && written(p) == written(api.ScopeProg{}) && show(first)+show(of) == "" && refusedSol(f, s)
}

// refusedSol reports whether each function returns ErrArg for a flat solution, and nothing else, whatever else is wrong.
func refusedSol(f api.FlatProg, s api.Sol) bool {
	filled, e0 := flat.Fill(f, s)
	n, e1 := flat.Count(f, s)
	x, e2 := flat.Nth(f, s, -1)
	u, l, e3 := flat.Do(f, s, api.SolStep{Wait: -2})
	v, m, e4 := flat.Run(f, s, make([]int, 300))
	for _, e := range []api.Errno{flat.CheckSol(f, s), e0, e1, e2, e3, e4} {
		if e != api.ErrArg {
			return false
		}
	}
	return n == 0 && written(x) == written(api.SolStep{}) && show(filled)+show(u)+show(v)+showEvents(l)+showEvents(m) == ""
}

// plain returns a program as it is as a flat one; it takes nothing.
func plain(p api.ScopeProg) api.FlatProg {
	f := api.FlatProg{Free: p.Free, Defs: p.Defs, Main: p.Main}
	for _, n := range p.Nodes {
		f.Nodes = append(f.Nodes, api.FlatNode{Op: n.Op, N: n.N, Args: n.Args, Kids: n.Kids})
	}
	return f
}

// P7.1: each thing that is asked of a flat program, broken alone.
func TestCheckOfChanged(t *testing.T) {
	f := flatOf(t, rich)
	s := firstOf(t, f)
	if takes(f) != "[0 1] | 0 [1] 1 [0 8] 6 [5 8] 11 [6] 14 [7] 16 [7] 24 [1 4 6] 28 [0 5 8] 29 [0 1]" || flat.Check(f) != api.OK {
		t.Fatal(takes(f))
	}
	for i, change := range []func(f *api.FlatProg){
		func(f *api.FlatProg) { *f = api.FlatProg{} },
		// What Main takes.
		func(f *api.FlatProg) { f.Take = []int{0} },
		func(f *api.FlatProg) { f.Take = []int{0, 2} },
		func(f *api.FlatProg) { f.Take = []int{0, 1, 2} },
		func(f *api.FlatProg) { f.Take = []int{-1, 1} },
		func(f *api.FlatProg) { f.Take = []int{1, 0} },
		func(f *api.FlatProg) { f.Take = []int{0, 0} },
		func(f *api.FlatProg) { f.Take = []int{0, 1, 1} },
		func(f *api.FlatProg) { f.Take = nil },
		// What nodes take: of a TermDef, a TermGo, a TermStop and a TermWatch.
		func(f *api.FlatProg) { f.Nodes[0].Take = nil },
		func(f *api.FlatProg) { f.Nodes[0].Take = []int{2} },
		func(f *api.FlatProg) { f.Nodes[0].Take = []int{-1} },
		func(f *api.FlatProg) { f.Nodes[0].Take = []int{1, 1} },
		func(f *api.FlatProg) { f.Nodes[0].Take = []int{1, 0} },
		func(f *api.FlatProg) { f.Nodes[1].Take = []int{0} }, // what follows asks for more
		func(f *api.FlatProg) { f.Nodes[1].Take = []int{0, 9} },
		func(f *api.FlatProg) { f.Nodes[6].Take = []int{5} },
		func(f *api.FlatProg) { f.Nodes[6].Take = []int{5, 9} },
		func(f *api.FlatProg) { f.Nodes[6].Take = []int{8, 5} },
		func(f *api.FlatProg) { f.Nodes[6].Take = []int{5, 8, 8} },
		func(f *api.FlatProg) { f.Nodes[12].Take = []int{1} }, // its list is what the TermWatch takes
		func(f *api.FlatProg) { f.Nodes[12].Take = []int{0, 0} },
		func(f *api.FlatProg) { f.Nodes[12].Take = []int{-1 << 63} },
		func(f *api.FlatProg) { f.Nodes[18].Take = []int{8} },
		func(f *api.FlatProg) { f.Nodes[11].Take = nil },
		func(f *api.FlatProg) { f.Nodes[28].Take = []int{0, 8} },
		func(f *api.FlatProg) { f.Nodes[28].Take = []int{0, 5, 9} },
		func(f *api.FlatProg) { f.Nodes[29].Take = []int{0, 1, 3} }, // its list is what the TermWatch takes
		func(f *api.FlatProg) { f.Nodes[29].Take = []int{1 << 62} },
		// Nodes of other kinds take nothing.
		func(f *api.FlatProg) { f.Nodes[2].Take = []int{0} },
		func(f *api.FlatProg) { f.Nodes[3].Take = []int{0} },
		func(f *api.FlatProg) { f.Nodes[15].Take = []int{0} },
		func(f *api.FlatProg) { f.Nodes[26].Take = []int{0} },
		func(f *api.FlatProg) { f.Nodes[27].Take = []int{0} },
		// Indices in lists: of a TermSend, and of names.
		func(f *api.FlatProg) { f.Nodes[2].N = -1 },
		func(f *api.FlatProg) { f.Nodes[2].N = 4 },
		func(f *api.FlatProg) { f.Nodes[5].N = 10 },
		func(f *api.FlatProg) { f.Nodes[30].N = 2 },
		func(f *api.FlatProg) { f.Nodes[22].N = 9 },
		func(f *api.FlatProg) { f.Nodes[22].N = 1 << 62 },
		func(f *api.FlatProg) { f.Nodes[2].Args[0].Kids[1].N = 4 },
		func(f *api.FlatProg) { f.Nodes[2].Args[1].N = -1 },
		func(f *api.FlatProg) { f.Nodes[4].Args[0].N = 10 },
		func(f *api.FlatProg) { f.Nodes[30].Args[0].N = 2 },
		func(f *api.FlatProg) { f.Nodes[26].Args[0].Kids[0].N = 9 },
		// Indices in what is taken: of a TermGo and a TermWatch.
		func(f *api.FlatProg) { f.Nodes[6].N = 2 },
		func(f *api.FlatProg) { f.Nodes[6].N = -1 },
		func(f *api.FlatProg) { f.Nodes[11].N = 1 },
		func(f *api.FlatProg) { f.Nodes[16].N = 7 }, // it is one of its list
		func(f *api.FlatProg) { f.Nodes[24].N = 3 },
		func(f *api.FlatProg) { f.Nodes[29].N = 1 << 62 },
		// What is no formed program when it is opened.
		func(f *api.FlatProg) { f.Free = []string{"out", "log"} },
		func(f *api.FlatProg) { f.Free = []string{"in", "out"} },
		func(f *api.FlatProg) { f.Free = []string{"log"} },
		func(f *api.FlatProg) { f.Main = 1 },
		func(f *api.FlatProg) { f.Main = -1 },
		func(f *api.FlatProg) { f.Main = len(f.Nodes) },
		func(f *api.FlatProg) { f.Nodes[0].N = 1 },
		func(f *api.FlatProg) { f.Nodes[0].N = 2 },
		func(f *api.FlatProg) { f.Nodes[3].N = 1 },
		func(f *api.FlatProg) { f.Nodes[12].N = 1 },
		func(f *api.FlatProg) { f.Nodes[15].N = 1 },
		func(f *api.FlatProg) { f.Nodes[26].N = -1 },
		func(f *api.FlatProg) { f.Nodes[15].Op = 0 },
		func(f *api.FlatProg) { f.Nodes[15].Op = 9 },
		func(f *api.FlatProg) { f.Nodes[15].Op = -1 },
		func(f *api.FlatProg) { f.Nodes[15].Op = 1 << 62 },
		func(f *api.FlatProg) { f.Nodes[3].Kids = []int{4, 4} },
		func(f *api.FlatProg) { f.Nodes[3].Kids = []int{4} },
		func(f *api.FlatProg) { f.Nodes[6].Kids = []int{6} },
		func(f *api.FlatProg) { f.Nodes[6].Kids = []int{0} },
		func(f *api.FlatProg) { f.Nodes[6].Kids = []int{31} },
		func(f *api.FlatProg) { f.Nodes[6].Kids = []int{-1 << 63} },
		func(f *api.FlatProg) { f.Nodes[6].Kids = nil },
		func(f *api.FlatProg) { f.Nodes[15].Kids = []int{15} },
		func(f *api.FlatProg) { f.Nodes[2].Args = slices.Repeat(f.Nodes[2].Args, 2) },
		func(f *api.FlatProg) { f.Nodes[26].Args = nil },
		func(f *api.FlatProg) { f.Nodes[3].Args = []api.ScopeExp{{Op: api.TermInt}} },
		func(f *api.FlatProg) { f.Nodes[7].Args[0].N = api.TermMost + 1 },
		func(f *api.FlatProg) { f.Nodes[7].Args[0].Op = 8 },
		func(f *api.FlatProg) { f.Nodes[7].Args[0] = api.ScopeExp{} },
		func(f *api.FlatProg) { f.Nodes[7].Args[0] = sample.Circle() },
		func(f *api.FlatProg) { f.Nodes[2].Args[0].N = 1 },
		func(f *api.FlatProg) { f.Nodes[2].Args[0].Kids = f.Nodes[2].Args[0].Kids[:1] },
		func(f *api.FlatProg) { f.Nodes = append(f.Nodes, api.FlatNode{Op: api.TermNil}) },
		func(f *api.FlatProg) { f.Nodes = f.Nodes[:30] },
		func(f *api.FlatProg) { f.Nodes = nil },
		func(f *api.FlatProg) { f.Defs = append(f.Defs, api.ScopeDef{}) },
		func(f *api.FlatProg) { f.Defs = f.Defs[:1] },
		func(f *api.FlatProg) { f.Defs[0].Chans[0].Many = 4 },
		func(f *api.FlatProg) { f.Defs[0].Chans[0].Many = -1 },
		func(f *api.FlatProg) { f.Defs[0].Chans[0].Many = 1 << 62 },
		func(f *api.FlatProg) { f.Defs[0].Chans[0].Many = 0 }, // what it brings is asked for
		func(f *api.FlatProg) { f.Defs[0].Chans[2].At = 5 },
		func(f *api.FlatProg) { f.Defs[0].Spots[0].In = 1 },
		func(f *api.FlatProg) { f.Defs[0].Spots[0].Node = 11 },
		func(f *api.FlatProg) { f.Defs[0].Rules[0].Joins = []int{0, 3} },
		func(f *api.FlatProg) { f.Defs[0].Rules[0].Joins = []int{0} },
		func(f *api.FlatProg) { f.Defs[0].Rules[0].Joins = []int{0, 1 << 62} },
		func(f *api.FlatProg) { f.Defs[0].Rules[0].Joins = []int{0, -1} },
		func(f *api.FlatProg) { f.Defs[0].Rules[0].Node = 0 },
		func(f *api.FlatProg) { f.Defs[0].Rules[0].Node = 31 },
		func(f *api.FlatProg) { f.Defs[0].Rules = nil },
	} {
		u := copiedFlat(f)
		change(&u)
		if !refused(u, s) {
			t.Error(i)
		}
		if formed(u) {
			t.Error(i, "is formed by the second reading")
		}
	}
}

// P7.1: what can be other than in the flat program of a program.
func TestCheckOfOthers(t *testing.T) {
	f := flatOf(t, rich)
	for i, change := range []func(f *api.FlatProg){
		func(f *api.FlatProg) { f.Free = []string{"log", "out", "zoo"} },
		func(f *api.FlatProg) { f.Free, f.Take = []string{"a", "log", "out"}, []int{1, 2} },
		func(f *api.FlatProg) { f.Free, f.Take = []string{"a", "log", "out", "zoo"}, []int{0, 3} },
		func(f *api.FlatProg) { f.Nodes[0].Take = []int{0} },
		func(f *api.FlatProg) { f.Nodes[0].Take = []int{0, 1} }, // all behind is something else
		func(f *api.FlatProg) { f.Nodes[1].Take = []int{3, 4} },
		func(f *api.FlatProg) { f.Nodes[6].Take = []int{0, 1, 2, 3, 4, 5, 6, 7, 8} },
		func(f *api.FlatProg) { f.Nodes[12].Take = []int{0} },
		func(f *api.FlatProg) { f.Nodes[18].Take = []int{0, 3, 7} },
		func(f *api.FlatProg) { f.Nodes[24].Take = []int{6, 7, 8} },
		func(f *api.FlatProg) { f.Nodes[24].N = 0 },
		func(f *api.FlatProg) { f.Nodes[28].Take, f.Nodes[28].N = []int{0, 1, 3, 4, 8}, 1 },
		func(f *api.FlatProg) { f.Nodes[29].Take = []int{0, 1, 2} },
		func(f *api.FlatProg) { f.Nodes[2].N = 3 },
		func(f *api.FlatProg) { f.Nodes[5].N = 9 },
		func(f *api.FlatProg) { f.Nodes[2].Args[0].Kids[1].N = 0 },
		func(f *api.FlatProg) { f.Nodes[26].Args[0].Kids[0].N = 8 },
		func(f *api.FlatProg) { f.Nodes[6].N = 1 },
	} {
		u := copiedFlat(f)
		change(&u)
		if e := flat.Check(u); e != api.OK || !formed(u) {
			t.Error(i, u, e, formed(u))
		}
	}
	for _, f := range []api.FlatProg{{Nodes: []api.FlatNode{{Op: api.TermNil}}}, {Nodes: []api.FlatNode{{Op: api.TermStop}}}, {Free: []string{"a"}, Nodes: []api.FlatNode{{Op: api.TermNil}}}, {Free: []string{"a", "b"}, Take: []int{1}, Nodes: []api.FlatNode{{Op: api.TermStop, Take: []int{0}}}}} {
		if e := flat.Check(f); e != api.OK {
			t.Error(f, e)
		}
	}
}

// P7.1: what is no program is no flat one either; nor is a program that takes nothing but has free names.
func TestCheckOfUnformed(t *testing.T) {
	for i, p := range append(sample.Unformed(example), program(example), program("out()")) {
		if f := plain(p); !refused(f, api.Sol{}) || !refused(f, firstOf(t, flatOf(t, example))) {
			t.Error(i, f)
		}
	}
	if f := plain(program("if 1 < 2 then 0 else stop")); flat.Check(f) != api.OK {
		t.Error(f)
	}
}

// P7.1: lists that are far too long, and share memory, are refused as they are.
func TestCheckOfHuge(t *testing.T) {
	names := slices.Repeat([]api.ScopeExp{{Op: api.TermName}}, 1<<16)
	deep := api.ScopeExp{Op: api.TermName}
	for range 100 {
		deep = api.ScopeExp{Op: api.TermAdd, Kids: []api.ScopeExp{deep, deep}}
	}
	numbers := make([]int, 1<<16)
	for i := range numbers {
		numbers[i] = i
	}
	for i, change := range []func(f *api.FlatProg){
		func(f *api.FlatProg) { f.Free = slices.Repeat(f.Free, 1<<20) },
		func(f *api.FlatProg) { f.Take = make([]int, 1<<20) },
		func(f *api.FlatProg) { f.Take = numbers },
		func(f *api.FlatProg) {
			f.Nodes = slices.Repeat([]api.FlatNode{{Op: api.TermSend, Args: names, Take: numbers}}, 1<<16)
		},
		func(f *api.FlatProg) { f.Nodes[1].Args = names },
		func(f *api.FlatProg) { f.Nodes[1].Args[0] = deep },
		func(f *api.FlatProg) { f.Nodes[1].Args[0] = api.ScopeExp{Op: api.TermAdd, Kids: names} },
		func(f *api.FlatProg) { f.Nodes[3].Take = numbers },
		func(f *api.FlatProg) { f.Nodes[2].Take = numbers },
		func(f *api.FlatProg) { f.Nodes[4].Kids = numbers },
		func(f *api.FlatProg) { f.Defs = slices.Repeat(f.Defs, 1<<20) },
		func(f *api.FlatProg) { f.Defs[0].Chans = make([]api.ScopeChan, 1<<20) },
		func(f *api.FlatProg) { f.Defs[0].Spots = make([]api.ScopeSpot, 1<<20) },
		func(f *api.FlatProg) { f.Defs[0].Rules = slices.Repeat([]api.ScopeRule{{Joins: numbers}}, 1<<16) },
		func(f *api.FlatProg) { f.Defs[0].Rules[0].Joins = numbers },
	} {
		f := flatOf(t, example)
		s := firstOf(t, f)
		change(&f)
		if !refused(f, s) {
			t.Error(i)
		}
	}
}

// P7.1: as many nodes as there can be, and one more; and as much as an expression can have.
func TestCheckOfLimits(t *testing.T) {
	for many, want := range map[int]api.Errno{29: api.OK, 30: api.ErrArg} { // a node around each of them
		f := api.FlatProg{Free: []string{"a"}, Take: []int{0}}
		for range many {
			f.Nodes = append(f.Nodes, api.FlatNode{Op: api.TermPar, Kids: []int{len(f.Nodes) + 1, len(f.Nodes) + 2}}, api.FlatNode{Op: api.TermStop, Take: []int{0}})
		}
		f.Nodes = append(f.Nodes, api.FlatNode{Op: api.TermSend})
		if e := flat.Check(f); e != want {
			t.Error(many, e)
		}
	}
	for depth, want := range map[int]api.Errno{api.TermDepth: api.OK, api.TermDepth + 1: api.ErrArg} {
		x := api.ScopeExp{Op: api.TermName}
		for range depth - 1 {
			x = api.ScopeExp{Op: api.TermSub, Kids: []api.ScopeExp{{Op: api.TermInt}, x}}
		}
		f := api.FlatProg{Free: []string{"a"}, Take: []int{0}, Nodes: []api.FlatNode{{Op: api.TermSend, Args: []api.ScopeExp{x}}}}
		if e := flat.Check(f); e != want {
			t.Error(depth, e)
		}
	}
}

// P7.1: flat programs with a change, or more of them, against the chapter's sentences.
func TestCheckOfMade(t *testing.T) {
	yes, no := 0, 0
	flats(t, 800, func(seed int64, r *rand.Rand, p api.ScopeProg, x takings, f api.FlatProg) {
		if e := flat.Check(f); e != api.OK {
			t.Fatal(seed, f, e)
		}
		for range 12 {
			u := copiedFlat(f)
			for range 1 + r.Intn(2) {
				disturb(r, &u)
			}
			is := formed(u)
			switch e := flat.Check(u); {
			case is && e == api.OK:
				yes++
				heldAgainst(t, u)
			case !is && e == api.ErrArg && refused(u, api.Sol{}):
				no++
			default:
				t.Fatal(seed, u, is, e)
			}
		}
	})
	if yes < 2000 || no < 4000 {
		t.Error("too few:", yes, no)
	}
}

// heldAgainst holds a formed flat program against the second reading (P7.1 and P7.2).
func heldAgainst(t *testing.T, f api.FlatProg) {
	t.Helper()
	y, _ := read(f)
	lists, e := flat.Lists(f)
	if e != api.OK || len(lists) != len(f.Nodes) {
		t.Fatal(f, lists, e)
	}
	for at, l := range lists {
		if !slices.Equal(l, y.listOf(at)) || !slices.IsSorted(l) {
			t.Fatal(f, at, l, y.listOf(at))
		}
	}
	p, e := flat.Open(f)
	if e != api.OK || written(p) != written(y.opened()) || scope.Check(p) != api.OK {
		t.Fatal(f, p, e)
	}
	least := treeOf(p).least()
	if !y.takings().has(least) {
		t.Fatal(f, y.takings(), least)
	}
	if n, e := flat.Spare(f); n != y.takings().count()-least.count() || e != api.OK {
		t.Fatal(f, n, e)
	}
	if q, e := flat.Flat(p); e != api.OK || written(q) != written(treeOf(p).laid(least)) {
		t.Fatal(p, q, e)
	}
}
