package flat_test

import (
	"math/rand"
	"slices"
	"testing"

	"cabotage/api"
	"cabotage/flat"
	"cabotage/internal/sample"
	"cabotage/sol"
)

// P7.3 and P7.4: the examples of the chapter, and the same with a definition that takes more.
func TestExampleFirst(t *testing.T) {
	for i, x := range []struct {
		f             api.FlatProg
		shown, filled string
		held          int
	}{
		{shut(), "-1 0; 0@0[f1 c0 c1 p1]; 0.0@0; 0.1@0; 2@1[]; 3@0[f0 c0 p1]", "-1 0; 0@0[0 f1 c0 c1 p1]; 0.0@0; 0.1@0; 2@1[0 0 0 0 0]; 3@0[f0 0 c0 0 p1]", 7},
		{loose(), "-1 0; 0@0[f0 f1 c0 c1 p1]; 0.0@0; 0.1@0; 2@1[]; 3@0[f0 c0 p1]", "-1 0; 0@0[f0 f1 c0 c1 p1]; 0.0@0; 0.1@0; 2@1[0 0 0 0 0]; 3@0[f0 0 c0 0 p1]", 8},
	} {
		s, said, e := flat.First(x.f)
		if e != api.OK || show(s) != x.shown || len(said) > 0 || flat.Held(s) != x.held || flat.CheckSol(x.f, s) != api.OK {
			t.Error(i, show(s), showEvents(said), e)
		}
		u, e := flat.Fill(x.f, s)
		if e != api.OK || show(u) != x.filled || flat.Held(u) != 15 {
			t.Error(i, show(u), e)
		}
		if s, e := flat.Of(x.f, u); e != api.OK || show(s) != x.shown {
			t.Error(i, show(s), e)
		}
		full, _, _ := sol.First(program(example))
		if s, e := flat.Of(x.f, full); e != api.OK || show(s) != x.shown || flat.Held(full) != 15 {
			t.Error(i, show(s), e)
		}
		// A flat solution is no solution, and a solution is no flat one.
		if s, e := flat.Of(x.f, s); e != api.ErrArg || show(s) != "" || !refusedSol(x.f, u) || !refusedSol(x.f, full) {
			t.Error(i, show(s), e)
		}
	}
}

// P7.3: how many values are held, of anything.
func TestHeld(t *testing.T) {
	for _, x := range []struct {
		s    api.Sol
		want int
	}{
		{api.Sol{}, 0},
		{api.Sol{Spots: make([]api.SolSpot, 9), Groups: make([]api.SolGroup, 50), Waits: make([]api.SolWait, 50)}, 0},
		{api.Sol{Groups: []api.SolGroup{{Def: -1, Env: make([]api.SolVal, 3)}, {Env: make([]api.SolVal, 4)}}, Chans: []api.SolQ{{Queue: []api.SolMsg{{Vals: make([]api.SolVal, 100)}}}}}, 7},
		{api.Sol{Groups: []api.SolGroup{{Env: make([]api.SolVal, 3)}}, Waits: []api.SolWait{{Node: 99, Env: make([]api.SolVal, 20)}, {}, {Env: make([]api.SolVal, 1<<20)}}}, 23 + 1<<20},
	} {
		if n := flat.Held(x.s); n != x.want {
			t.Error(show(x.s), n)
		}
	}
}

// settled is a flat solution of rich with two groups, a dead place and a place that went.
func settled(t *testing.T) (api.FlatProg, api.Sol) {
	t.Helper()
	f := flatOf(t, rich)
	s := behind(t, f, firstOf(t, f), 0, 2, 3, 2)
	if show(s) != "-1 2 0 0 3!; 0@0[f1 c0 c1 c2 p1 p2 p3 p4]; 1@0[f1 4 c3]; 0.0@0; 0.1@0(); 0.2@1(c0); 1.0@0(4); 11@2[p3]; 14@3[p4]; 16@3[p4]; 24@0[f1 c2 p2]; 28@0[f0 p1 p4]" {
		t.Fatal(show(s))
	}
	return f, s
}

// P7.3: each thing that is asked of a flat solution, broken alone.
func TestCheckSolOfChanged(t *testing.T) {
	f, s := settled(t)
	if e := flat.CheckSol(f, s); e != api.OK {
		t.Fatal(e)
	}
	for i, change := range []func(s *api.Sol){
		// How long environments are.
		func(s *api.Sol) { s.Groups[0].Env = s.Groups[0].Env[1:] },
		func(s *api.Sol) { s.Groups[0].Env = append(s.Groups[0].Env, place(4)) },
		func(s *api.Sol) { s.Groups[0].Env = nil },
		func(s *api.Sol) { s.Groups[0].Env = slices.Concat([]api.SolVal{free(0)}, s.Groups[0].Env) }, // as long as in the solution
		func(s *api.Sol) { s.Groups[1].Env = s.Groups[1].Env[1:] },
		func(s *api.Sol) { s.Groups[1].Env = append(s.Groups[1].Env, channel(3)) },
		func(s *api.Sol) { s.Waits[0].Env = nil },
		func(s *api.Sol) { s.Waits[0].Env = append(s.Waits[0].Env, integer(1)) },
		func(s *api.Sol) { s.Waits[0].Env = slices.Repeat(s.Waits[0].Env, 9) }, // as long as in the solution
		func(s *api.Sol) { s.Waits[3].Env = s.Waits[3].Env[:2] },
		// What is not formed when it is filled.
		func(s *api.Sol) { *s = api.Sol{} },
		func(s *api.Sol) { s.Spots[0].In = 0 },
		func(s *api.Sol) { s.Spots[2].In = 1 },
		func(s *api.Sol) { s.Spots[2].Dead = true },
		func(s *api.Sol) { s.Spots = append(s.Spots, api.SolSpot{}) },
		func(s *api.Sol) { s.Groups[0].Def = -1 },
		func(s *api.Sol) { s.Groups[0].Def = 1 },
		func(s *api.Sol) { s.Groups[1].Def = 2 },
		func(s *api.Sol) { s.Groups[1].At = 5 },
		func(s *api.Sol) { s.Groups[1].At = -1 },
		func(s *api.Sol) { s.Groups[1].Env[0] = free(2) },
		func(s *api.Sol) { s.Groups[1].Env[1] = integer(api.TermMost + 1) },
		func(s *api.Sol) { s.Groups[1].Env[1] = api.SolVal{} },
		func(s *api.Sol) { s.Groups[1].Env[2] = channel(2) },
		func(s *api.Sol) { s.Groups[0].Env[1], s.Groups[0].Env[2] = channel(1), channel(0) },
		func(s *api.Sol) { s.Groups[0].Env[7] = integer(0) },
		func(s *api.Sol) { s.Groups = s.Groups[:1] },
		func(s *api.Sol) { s.Groups = append(s.Groups, s.Groups[1]) },
		func(s *api.Sol) { slices.Reverse(s.Groups) },
		func(s *api.Sol) { s.Chans[3].Group = 0 },
		func(s *api.Sol) { s.Chans[1].Index = 0 },
		func(s *api.Sol) { s.Chans[2].At = 0 },
		func(s *api.Sol) { s.Chans = s.Chans[:3] },
		func(s *api.Sol) { s.Chans[3].Queue[0].Vals = nil },
		func(s *api.Sol) { s.Chans[3].Queue[0].Vals[0] = channel(4) },
		func(s *api.Sol) { s.Chans[3].Queue = slices.Repeat(s.Chans[3].Queue, 13) },
		func(s *api.Sol) { s.Waits[0].At = 4 }, // it is dead
		func(s *api.Sol) { s.Waits[0].At = 5 },
		func(s *api.Sol) { s.Waits[0].Node = -1 },
		func(s *api.Sol) { s.Waits[0].Node = 31 },
		func(s *api.Sol) { s.Waits[0].Node = 0 }, // a TermDef that takes as much
		func(s *api.Sol) { s.Waits[0].Node, s.Waits[0].Env = 15, nil },
		func(s *api.Sol) { s.Waits[0].Node = 24 },
		func(s *api.Sol) { s.Waits[0].Env[0] = place(5) },
		func(s *api.Sol) { s.Waits[4].Env[0] = api.SolVal{Kind: 5} },
		func(s *api.Sol) { s.Waits = slices.Repeat(s.Waits, 9)[:41] },
	} {
		u := copied(s)
		change(&u)
		if !refusedSol(f, u) {
			t.Error(i, show(u))
		}
		if y, _ := read(f); y.formedSol(u) {
			t.Error(i, "is formed by the second reading", show(u))
		}
	}
}

// P7.3: what can be other than in any run.
func TestCheckSolOfOthers(t *testing.T) {
	f, s := settled(t)
	for i, change := range []func(s *api.Sol){
		func(s *api.Sol) { s.Groups[0].Env[0], s.Groups[1].Env[0] = integer(7), place(4) },
		func(s *api.Sol) { s.Groups[1].Env[1] = integer(-api.TermMost) },
		func(s *api.Sol) { s.Chans[3].Queue = slices.Repeat(s.Chans[3].Queue, 12) },
		func(s *api.Sol) { s.Waits = slices.Repeat(s.Waits, 8) },
		func(s *api.Sol) { s.Waits = nil },
		func(s *api.Sol) { s.Waits[0].Env[0] = channel(3) },
		func(s *api.Sol) { s.Waits[0].Node = 14 }, // it takes as much
		func(s *api.Sol) { s.Waits[0].Node, s.Waits[0].Env = 18, nil },
		func(s *api.Sol) { s.Waits[0].Node, s.Waits[0].Env = 6, []api.SolVal{free(0), integer(1)} },
		func(s *api.Sol) { slices.Reverse(s.Waits) },
	} {
		u := copied(s)
		change(&u)
		if e := flat.CheckSol(f, u); e != api.OK {
			t.Error(i, show(u), e)
		}
	}
}

// P7.3: lists that are far too long, and share memory, are refused as they are.
func TestCheckSolOfHuge(t *testing.T) {
	f := shut()
	huge := slices.Repeat([]api.SolVal{integer(1)}, 1<<16)
	for i, change := range []func(s *api.Sol){
		func(s *api.Sol) { s.Spots = make([]api.SolSpot, 1<<20) },
		func(s *api.Sol) { s.Groups = slices.Repeat([]api.SolGroup{{Env: huge}}, 1<<16) },
		func(s *api.Sol) { s.Groups = slices.Repeat(s.Groups, 1<<20) },
		func(s *api.Sol) { s.Chans = slices.Repeat(s.Chans, 1<<16) },
		func(s *api.Sol) { s.Chans[0].Queue = slices.Repeat([]api.SolMsg{{Vals: huge}}, 1<<16) },
		func(s *api.Sol) { s.Waits = slices.Repeat([]api.SolWait{{Env: huge}}, 1<<16) },
		func(s *api.Sol) { s.Waits = slices.Repeat(s.Waits, 1<<20) },
		func(s *api.Sol) { s.Groups[0].Def = 1 << 62 },
		func(s *api.Sol) { s.Waits[0].Node = -1 << 63 },
		func(s *api.Sol) { s.Waits[1].Env[2].N = 1 << 62 },
	} {
		s := firstOf(t, f)
		change(&s)
		if u, e := flat.Of(f, s); e != api.ErrArg || show(u) != "" || !refusedSol(f, s) {
			t.Error(i)
		}
	}
}

// P7.3: flat solutions, and solutions, with a change, or more of them, against the chapter's sentences.
func TestCheckSolOfMade(t *testing.T) {
	yes, no, of := 0, 0, 0
	solutions(t, 150, func(seed int64, r *rand.Rand, p api.ScopeProg, f api.FlatProg, s api.Sol) {
		y, _ := read(f)
		v := y.flattened(s)
		for range 12 {
			u := copied(v)
			for range 1 + r.Intn(2) {
				sample.Disturb(r.Intn, len(p.Nodes), &u)
			}
			is := y.formedSol(u)
			switch e := flat.CheckSol(f, u); {
			case is && e == api.OK:
				filled, e := flat.Fill(f, u)
				if want, _ := y.filled(u); e != api.OK || show(filled) != show(want) {
					t.Fatal(seed, f, show(u), show(filled), e)
				}
				yes++
			case !is && e == api.ErrArg && refusedSol(f, u):
				no++
			default:
				t.Fatal(seed, f, show(u), is, e)
			}
		}
		u := copied(s)
		sample.Disturb(r.Intn, len(p.Nodes), &u)
		w, e := flat.Of(f, u)
		if e != sol.Check(p, u) || e == api.OK && show(w) != show(y.flattened(u)) || e != api.OK && show(w) != "" {
			t.Fatal(seed, f, show(u), show(w), e)
		}
		of += number(e == api.OK)
	})
	if yes < 3000 || no < 6000 || of < 400 {
		t.Error("too few:", yes, no, of)
	}
}

// P7.3: Of and Fill, of solutions of runs and of others, against the second reading. What is filled has what it was filled from as its own, and no more is held than in the solution.
func TestOfAndFillOfMade(t *testing.T) {
	less := 0
	solutions(t, 400, func(seed int64, r *rand.Rand, p api.ScopeProg, f api.FlatProg, s api.Sol) {
		y, _ := read(f)
		u, e := flat.Of(f, s)
		if e != api.OK || show(u) != show(y.flattened(s)) || flat.CheckSol(f, u) != api.OK {
			t.Fatal(seed, f, show(s), show(u), e)
		}
		full, e := flat.Fill(f, u)
		want, _ := y.filled(u)
		if e != api.OK || show(full) != show(want) || sol.Check(p, full) != api.OK {
			t.Fatal(seed, f, show(u), show(full), e)
		}
		if v, e := flat.Of(f, full); e != api.OK || show(v) != show(u) {
			t.Fatal(seed, f, show(full), show(v), e)
		}
		if flat.Held(u) > flat.Held(s) || flat.Held(full) != flat.Held(s) {
			t.Fatal(seed, f, flat.Held(u), flat.Held(s), flat.Held(full))
		}
		less += number(flat.Held(u) < flat.Held(s))
	})
	if less < 2000 {
		t.Error("too few:", less)
	}
}
