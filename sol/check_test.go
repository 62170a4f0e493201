package sol_test

import (
	"math/rand"
	"slices"
	"strings"
	"testing"

	"cabotage/api"
	"cabotage/internal/sample"
	"cabotage/sol"
)

// around puts what all environments of rich begin with into a solution that is written down.
func around(shown string) string { return strings.ReplaceAll(shown, "[", "[f0 c0 c1 c2 p1 p2 p3 p4") }

// settled is a solution of rich with two groups, a dead place and a place that went.
func settled(t *testing.T) (api.ScopeProg, api.Sol) {
	t.Helper()
	p := program(rich)
	s := behind(t, p, firstOf(t, p), 0, 2, 3, 2)
	if show(s) != around("-1 2 0 0 3!; 0@0[]; 1@0[ 4 c3]; 0.0@0; 0.1@0(); 0.2@1(c0); 1.0@0(4); 11@2[]; 14@3[]; 16@3[]; 24@0[]; 26@0[]") {
		t.Fatal(show(s))
	}
	return p, s
}

// refused reports whether each function returns ErrArg for a solution of a program, and nothing else, whatever else is wrong.
func refused(p api.ScopeProg, s api.Sol) bool {
	n, e := sol.Count(p, s)
	x, f := sol.Nth(p, s, 0)
	u, l, g := sol.Do(p, s, api.SolStep{})
	v, m, h := sol.Run(p, s, make([]int, 300))
	for _, e := range []api.Errno{sol.Check(p, s), e, f, g, h} {
		if e != api.ErrArg {
			return false
		}
	}
	return n == 0 && showStep(x) == "0" && show(u)+show(v)+showEvents(l)+showEvents(m) == ""
}

// P6.1: each thing that is asked of a solution, broken alone.
func TestCheckOfChanged(t *testing.T) {
	p, s := settled(t)
	if e := sol.Check(p, s); e != api.OK {
		t.Fatal(e)
	}
	for i, change := range []func(s *api.Sol){
		// Places.
		func(s *api.Sol) { s.Spots[0].In = 0 },
		func(s *api.Sol) { s.Spots[0].In = -2 },
		func(s *api.Sol) { s.Spots[0].In = 1 },
		func(s *api.Sol) { s.Spots[1].In = -1 },
		func(s *api.Sol) { s.Spots[1].In = 5 },
		func(s *api.Sol) { s.Spots[1].In = 1 },
		func(s *api.Sol) { s.Spots[2].In = 1 },
		func(s *api.Sol) { s.Spots[3].In, s.Spots[2].In = 1, 3 },
		func(s *api.Sol) { s.Spots[2].In = 4 },
		func(s *api.Sol) { s.Spots[3].In = 4 },
		func(s *api.Sol) { s.Spots[0].Dead = true },
		func(s *api.Sol) { s.Spots[2].Dead = true },
		func(s *api.Sol) { s.Spots = append(s.Spots, api.SolSpot{}) },
		func(s *api.Sol) { s.Spots = s.Spots[:4] },
		func(s *api.Sol) { s.Spots = nil },
		func(s *api.Sol) { *s = api.Sol{} },
		// Groups.
		func(s *api.Sol) { s.Groups[0].Def = -1 },
		func(s *api.Sol) { s.Groups[0].Def = 1 },
		func(s *api.Sol) { s.Groups[0].Def = 2 },
		func(s *api.Sol) { s.Groups[1].At = -1 },
		func(s *api.Sol) { s.Groups[1].At = 5 },
		func(s *api.Sol) { s.Groups[1].At = 1 }, // its channel is not there
		func(s *api.Sol) { s.Groups[1].Env = append(s.Groups[1].Env, channel(3)) },
		func(s *api.Sol) { s.Groups[1].Env = s.Groups[1].Env[1:] },
		func(s *api.Sol) { s.Groups[0].Env = s.Groups[0].Env[:7] },
		func(s *api.Sol) { s.Groups[0].Env = nil },
		func(s *api.Sol) { s.Groups[1].Env[0] = free(1) },
		func(s *api.Sol) { s.Groups[1].Env[0] = free(-1) },
		func(s *api.Sol) { s.Groups[1].Env[0] = channel(4) },
		func(s *api.Sol) { s.Groups[1].Env[0] = place(5) },
		func(s *api.Sol) { s.Groups[1].Env[0] = integer(api.TermMost + 1) },
		func(s *api.Sol) { s.Groups[1].Env[0] = integer(-api.TermMost - 1) },
		func(s *api.Sol) { s.Groups[1].Env[0] = api.SolVal{} },
		func(s *api.Sol) { s.Groups[1].Env[0] = api.SolVal{Kind: 5} },
		func(s *api.Sol) { s.Groups[1].Env[9] = channel(2) },
		func(s *api.Sol) { s.Groups[0].Env[2], s.Groups[0].Env[1] = channel(0), channel(1) },
		func(s *api.Sol) { s.Groups[0].Env[5], s.Groups[0].Env[4] = place(1), place(2) },
		func(s *api.Sol) { s.Groups[0].Env[4] = channel(1) },
		func(s *api.Sol) { s.Groups[0].Env[3] = place(2) },
		func(s *api.Sol) { s.Groups[0].Env[1] = integer(0) },
		func(s *api.Sol) { s.Groups = append(s.Groups, s.Groups[1]) },
		func(s *api.Sol) { s.Groups = s.Groups[:1] },
		func(s *api.Sol) { s.Groups = s.Groups[1:] },
		func(s *api.Sol) { slices.Reverse(s.Groups) },
		func(s *api.Sol) { s.Groups = nil },
		// Channels.
		func(s *api.Sol) { s.Chans[3].Group = 0 },
		func(s *api.Sol) { s.Chans[0].Group = 1 },
		func(s *api.Sol) { s.Chans[0].Group = -1 },
		func(s *api.Sol) { s.Chans[0].Group = 2 },
		func(s *api.Sol) { s.Chans[1].Index = 0 },
		func(s *api.Sol) { s.Chans[3].Index = -1 },
		func(s *api.Sol) { s.Chans[3].Index = 1 },
		func(s *api.Sol) { s.Chans[2].At = 0 },
		func(s *api.Sol) { s.Chans[2].At = 2 },
		func(s *api.Sol) { s.Chans[0].At = 1 },
		func(s *api.Sol) { s.Chans[0].At = -1 },
		func(s *api.Sol) { s.Chans[0].At = 5 },
		func(s *api.Sol) { s.Chans[0], s.Chans[1] = s.Chans[1], s.Chans[0] },
		func(s *api.Sol) { s.Chans = s.Chans[:3] },
		func(s *api.Sol) { s.Chans = append(s.Chans, s.Chans[3]) },
		func(s *api.Sol) { s.Chans = nil },
		func(s *api.Sol) { s.Chans[3].Queue[0].Vals = nil },
		func(s *api.Sol) { s.Chans[3].Queue[0].Vals = slices.Repeat(s.Chans[3].Queue[0].Vals, 2) },
		func(s *api.Sol) { s.Chans[1].Queue[0].Vals = []api.SolVal{integer(0)} },
		func(s *api.Sol) { s.Chans[3].Queue[0].Vals[0] = channel(4) },
		func(s *api.Sol) { s.Chans[3].Queue[0].Vals[0] = integer(api.TermMost + 1) },
		func(s *api.Sol) { s.Chans[3].Queue = slices.Repeat(s.Chans[3].Queue, 13) },
		func(s *api.Sol) { s.Spots[1].Dead, s.Waits = true, nil }, // a message in a dead place
		// What waits.
		func(s *api.Sol) { s.Waits[0].At = -1 },
		func(s *api.Sol) { s.Waits[0].At = 5 },
		func(s *api.Sol) { s.Waits[0].At = 4 }, // it is dead
		func(s *api.Sol) { s.Waits[0].Node = -1 },
		func(s *api.Sol) { s.Waits[0].Node = len(p.Nodes) },
		func(s *api.Sol) { s.Waits[0].Node = 0 },
		func(s *api.Sol) { s.Waits[0].Node = 1 },
		func(s *api.Sol) { s.Waits[0].Node = 6 }, // its environment is larger
		func(s *api.Sol) { s.Waits[0].Env = s.Waits[0].Env[1:] },
		func(s *api.Sol) { s.Waits[0].Env = append(s.Waits[0].Env, integer(1)) },
		func(s *api.Sol) { s.Waits[0].Env = nil },
		func(s *api.Sol) { s.Waits[0].Env[7] = place(5) },
		func(s *api.Sol) { s.Waits[0].Env[7] = place(-1) },
		func(s *api.Sol) { s.Waits[4].Env[3] = api.SolVal{Kind: -1} },
		func(s *api.Sol) { s.Waits = slices.Repeat(s.Waits, 9)[:41] },
	} {
		u := copied(s)
		change(&u)
		if !refused(p, u) {
			t.Error(i, show(u))
		}
	}
}

// P6.1: what can be other than in any run.
func TestCheckOfOthers(t *testing.T) {
	p, s := settled(t)
	for i, change := range []func(s *api.Sol){
		func(s *api.Sol) { s.Spots[1].In = 4; s.Spots[1].Dead, s.Chans[2].Queue = true, nil },
		func(s *api.Sol) { s.Spots[4].Dead = false },
		func(s *api.Sol) { s.Spots[3].In, s.Spots[1].In = 1, 0 },
		func(s *api.Sol) { s.Groups[0].At, s.Chans[0].At, s.Chans[1].At = 3, 3, 3 },
		func(s *api.Sol) { s.Groups[1].At, s.Chans[3].At, s.Chans[3].Queue = 4, 4, nil },
		func(s *api.Sol) { s.Groups[0].Env[0], s.Groups[1].Env[0] = integer(7), place(4) },
		func(s *api.Sol) { s.Groups[1].Env[1], s.Groups[1].Env[4] = free(0), integer(-api.TermMost) },
		func(s *api.Sol) { s.Chans[3].Queue = slices.Repeat(s.Chans[3].Queue, 12) },
		func(s *api.Sol) { s.Chans[3].Queue[0].Vals[0] = place(4) },
		func(s *api.Sol) { s.Chans[3].Queue, s.Chans[2].Queue = nil, nil },
		func(s *api.Sol) { s.Waits = slices.Repeat(s.Waits, 8) },
		func(s *api.Sol) { s.Waits = nil },
		func(s *api.Sol) { s.Waits[0].Node, s.Waits[0].Env = 6, append(s.Waits[0].Env, integer(api.TermMost)) },
		func(s *api.Sol) { slices.Reverse(s.Waits) },
		func(s *api.Sol) {
			for i := range s.Spots {
				s.Spots[i].Dead = true
			}
			for i := range s.Chans {
				s.Chans[i].Queue = nil
			}
			s.Waits = nil
		},
	} {
		u := copied(s)
		change(&u)
		if e := sol.Check(p, u); e != api.OK {
			t.Error(i, show(u), e)
		}
	}
	if e := sol.Check(program("0"), api.Sol{Spots: []api.SolSpot{{In: -1}}}); e != api.OK {
		t.Error(e)
	}
}

// P6.1: as many places, groups and channels as there can be, and one more.
func TestCheckOfLimits(t *testing.T) {
	for places, want := range map[int]api.Errno{23: api.OK, 24: api.ErrArg} {
		s := api.Sol{Spots: []api.SolSpot{{In: -1}}, Groups: make([]api.SolGroup, 1)}
		for i := range places {
			s.Spots = append(s.Spots, api.SolSpot{})
			s.Groups[0].Env = append(s.Groups[0].Env, place(i+1))
		}
		if e := sol.Check(spread(places), s); e != want {
			t.Error(places, e)
		}
	}
	p := program("def x() = 0 in def y() & z() = 0 in 0")
	for single, want := range map[int]api.Errno{0: api.OK, 1: api.ErrArg} { // groups of one channel, beside 30 of two
		s := api.Sol{Spots: []api.SolSpot{{In: -1}}}
		for g := range 30 + single {
			n := len(s.Chans)
			if g < 30 {
				s.Groups = append(s.Groups, api.SolGroup{Def: 1, Env: []api.SolVal{integer(0), channel(n), channel(n + 1)}})
				s.Chans = append(s.Chans, api.SolQ{Group: g}, api.SolQ{Group: g, Index: 1})
				continue
			}
			s.Groups = append(s.Groups, api.SolGroup{Env: []api.SolVal{channel(n)}})
			s.Chans = append(s.Chans, api.SolQ{Group: g})
		}
		if e := sol.Check(p, s); e != want {
			t.Error(single, e)
		}
	}
	for groups, want := range map[int]api.Errno{40: api.OK, 41: api.ErrArg} { // a channel each
		s := api.Sol{Spots: []api.SolSpot{{In: -1}}}
		for i := range groups {
			s.Groups = append(s.Groups, api.SolGroup{Env: []api.SolVal{channel(i)}})
			s.Chans = append(s.Chans, api.SolQ{Group: i})
		}
		if e := sol.Check(program("def x(a) = 0 in 0"), s); e != want {
			t.Error(groups, e)
		}
	}
}

// P6.1: programs that are not formed, and such for which a solution is not.
func TestCheckOfPrograms(t *testing.T) {
	s := firstOf(t, program(example))
	for _, p := range append(sample.Unformed(example), program("0"), program("def x(a) & y() = out(a) in 0"), program(strings.Replace(example, "out", "out(q) | out", 1)), program(strings.Replace(example, "stop", "0", 1)), program(rich)) {
		if !refused(p, s) {
			t.Error(p)
		}
	}
	for _, p := range sample.Unformed(example) {
		if !refused(p, api.Sol{Spots: []api.SolSpot{{In: -1}}}) {
			t.Error(p)
		}
	}
}

// P6.1: solutions with a change, or more of them, against the chapter's sentences.
func TestCheckOfMade(t *testing.T) {
	yes, no := 0, 0
	solutions(t, 300, func(seed int64, r *rand.Rand, p api.ScopeProg, s api.Sol) {
		if e := sol.Check(p, s); e != api.OK {
			t.Fatal(seed, show(s), e)
		}
		for range 12 {
			u := copied(s)
			for range 1 + r.Intn(2) {
				sample.Disturb(r.Intn, len(p.Nodes), &u)
			}
			switch e := sol.Check(p, u); {
			case e == api.OK && formed(p, u):
				yes++
			case e == api.ErrArg && !formed(p, u):
				no++
			default:
				t.Fatal(seed, p, show(u), e)
			}
		}
	})
	if yes < 4000 || no < 8000 {
		t.Error("too few:", yes, no)
	}
}

// P6.1: lists that are far too long, and numbers far out of range, are refused as they are.
func TestCheckOfHuge(t *testing.T) {
	p := program(example)
	huge := slices.Repeat([]api.SolVal{integer(1)}, 1<<16)
	for i, change := range []func(s *api.Sol){
		func(s *api.Sol) { s.Spots = make([]api.SolSpot, 1<<20) },
		func(s *api.Sol) { s.Groups = slices.Repeat([]api.SolGroup{{Env: huge}}, 1<<16) },
		func(s *api.Sol) { s.Chans = slices.Repeat(s.Chans, 1<<16) },
		func(s *api.Sol) { s.Chans[0].Queue = slices.Repeat([]api.SolMsg{{Vals: huge}}, 1<<16) },
		func(s *api.Sol) { s.Waits = slices.Repeat([]api.SolWait{{Env: huge}}, 1<<16) },
		func(s *api.Sol) { s.Spots[1].In = 1 << 62 },
		func(s *api.Sol) { s.Spots[1].In = -1 << 63 },
		func(s *api.Sol) { s.Groups[0].Def = 1 << 62 },
		func(s *api.Sol) { s.Groups[0].At = -1 << 63 },
		func(s *api.Sol) { s.Groups[0].Env[0].N = 1 << 62 },
		func(s *api.Sol) { s.Chans[0].At = 1 << 62 },
		func(s *api.Sol) { s.Waits[0].At = 1 << 62 },
		func(s *api.Sol) { s.Waits[0].Node = -1 << 63 },
		func(s *api.Sol) { s.Chans[0].Queue[0].Vals[0].N = -1 << 63 },
		func(s *api.Sol) { s.Chans[0].Queue[0].Vals[0].Kind = 1 << 62 },
	} {
		s := firstOf(t, p)
		change(&s)
		if !refused(p, s) {
			t.Error(i)
		}
	}
}
