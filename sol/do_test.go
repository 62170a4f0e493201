package sol_test

import (
	"math/rand"
	"slices"
	"testing"

	"cabotage/api"
	"cabotage/internal/sample"
	"cabotage/sol"
)

// P6.4: a step of each kind.
func TestDo(t *testing.T) {
	p := program(rich)
	s := firstOf(t, p)
	if show(s) != around("-1 0 0 0 3; 0@0[]; 0.0@0(4); 0.1@0(); 0.2@1(c0)(f0); 11@2[]; 14@3[]; 16@3[]; 18@4[]; 24@0[]; 26@0[]") {
		t.Fatal(show(s))
	}
	for _, x := range []struct {
		step           api.SolStep
		shown, happens string
	}{
		{api.SolStep{Wait: 3}, "-1 0 0 0 3!; 0@0[]; 0.0@0(4); 0.1@0(); 0.2@1(c0)(f0); 11@2[]; 14@3[]; 16@3[]; 24@0[]; 26@0[]", "died 4"},
		{api.SolStep{Wait: -1}, "", ""},
		{api.SolStep{Wait: -1, Picks: []int{0, 0}}, "-1 0 0 0 3!; 0@0[]; 1@0[ 4 c3]; 0.0@0; 0.1@0(); 0.2@1(c0)(f0); 1.0@0(4); 11@2[]; 14@3[]; 16@3[]; 24@0[]; 26@0[]", "took 0 0.0(4)"},
		{api.SolStep{Wait: -1, Group: 1, Picks: []int{0}}, "-1 0 0 0 3!; 0@0[]; 1@0[ 4 c3]; 0.0@0; 0.1@0(); 0.2@1(c0)(f0); 1.0@0; 11@2[]; 14@3[]; 16@3[]; 24@0[]; 26@0[]", "took 0 1.0(4), said 0 0(8 4)"},
		{api.SolStep{Wait: -1, Rule: 1, Picks: []int{1}}, "-1 0 0 0 3!; 0@0[]; 1@0[ 4 c3]; 0.0@0; 0.1@0(); 0.2@1(c0); 1.0@0; 11@2[]; 14@3[]; 16@3[]; 24@0[]; 26@0[]; 6@1[ f0]", "took 1 0.1(f0)"},
		{api.SolStep{Wait: 5}, "-1 2 0 0 3!; 0@0[]; 1@0[ 4 c3]; 0.0@0; 0.1@0(); 0.2@1(c0); 1.0@0; 11@2[]; 14@3[]; 16@3[]; 24@0[]; 26@0[]", "went 1 2, said 1 0(1)"},
		{api.SolStep{Wait: 2}, "-1 2 0 0 3!; 0@0[]; 1@0[ 4 c3]; 0.0@0; 0.1@0(); 0.2@1(c0); 1.0@0; 11@2[]; 14@3[]; 24@0[]; 26@0[]; 17@3[]", "told 3 4"},
		{api.SolStep{Wait: 4}, "-1 2 0 0! 3!; 0@0[]; 1@0[ 4 c3]; 0.0@0; 0.1@0(); 0.2@1(c0); 1.0@0; 11@2[]; 24@0[]; 26@0[]", "died 3"},
		{api.SolStep{}, "-1 2 0 0! 3!; 0@0[]; 1@0[ 4 c3]; 0.0@0; 0.1@0(); 0.2@1(c0); 1.0@0; 24@0[]; 26@0[]; 12@2[]", "told 2 3"},
		{api.SolStep{Wait: 2}, "-1 2! 0! 0! 3!; 0@0[]; 1@0[ 4 c3]; 0.0@0; 0.1@0(); 0.2@1; 1.0@0; 24@0[]; 26@0[]", "died 2"}, // with what is within
		{api.SolStep{}, "-1 2! 0! 0! 3!; 0@0[]; 1@0[ 4 c3]; 0.0@0; 0.1@0(); 0.2@1; 1.0@0; 26@0[]", "told 0 2"},              // the message is lost
		{api.SolStep{}, "-1 2! 0! 0! 3!; 0@0[]; 1@0[ 4 c3]; 0.0@0; 0.1@0(); 0.2@1; 1.0@0; 27@0[]", "told 0 4"},
	} {
		u, l, e := sol.Do(p, s, x.step)
		if x.shown == "" {
			if e != api.ErrNone || show(u)+showEvents(l) != "" {
				t.Error(showStep(x.step), show(u), showEvents(l), e)
			}
			continue
		}
		if e != api.OK || show(u) != around(x.shown) || showEvents(l) != x.happens {
			t.Fatal(showStep(x.step), show(u), showEvents(l), e)
		}
		s = u
	}
}

// P6.4: what a step does, at once and in order.
func TestDoOfSources(t *testing.T) {
	for _, x := range []struct {
		source string
		picks  []int
		shown  string
		events string
	}{
		// The values of the messages, in the order of Joins, behind the group's environment.
		{"def x(a, b) & y() & z(c) = out(c, b, a) in y() | z(3) | z(4) | x(5, 6) | x(x, out)", []int{3}, "-1; 0@0[f0 c0 c1 c2]; 0.0@0(5 6); 0.1@0; 0.2@0(3)", "took 0 0.0(c0 f0 4), said 0 0(4 f0 c0)"},
		// A rule reacts in its place, and what it makes is there.
		{"def place p { x() = (def y() = 0 and place r { in 0 } in out(r)) | stop in x() } in 0", []int{0}, "-1 0 1; 0@0[f0 c0 p1]; 1@1[f0 c0 p1 c1 p2]; 0.0@1; 1.0@1; 6@1[f0 c0 p1]", "took 1 0.0(), said 1 0(p2)"},
		{"def place p { place q { x() = out() in x() } in 0 } in 0", []int{0}, "-1 0 1; 0@0[f0 c0 p1 p2]; 0.0@2", "took 2 0.0(), said 2 0()"},
		// Messages go to the end of a queue, wherever it is; those to a dead place, or to no channel, are lost.
		{"def x(a) = x(a + 1) in x(1) | x(2) | x(3)", []int{1}, "-1; 0@0[c0]; 0.0@0(1)(3)(3)", "took 0 0.0(2)"},
		{"def place p { x(a) = 0 in stop } and place q { y() = x(1) in y() } in 0", []int{1}, "-1 0 0; 0@0[c0 c1 p1 p2]; 0.0@1(1); 0.1@2; 3@1[c0 c1 p1 p2]", "took 2 0.1()"},
		{"def place p { x(a) = 0 in stop } and place q { y() = x(1) in y() } in 0", []int{0, 0}, "-1 0! 0; 0@0[c0 c1 p1 p2]; 0.0@1; 0.1@2", "died 1, took 2 0.1()"},
		{"def x(a) = a() | a(1) | a(1, 2) and place p { y() = 0 in 0 } in x(y) | x(1) | x(p) | x(out)", []int{0, 0, 0, 0, 0, 0, 0, 0, 0}, "-1 0; 0@0[f0 c0 c1 p1]; 0.0@0; 0.1@1", "took 0 0.0(c1), took 0 0.0(1), took 0 0.0(p1), took 0 0.0(f0), said 0 0(), said 0 0(1), said 0 0(1 2), took 1 0.1()"},
		// Who goes takes all with it, and goes on there.
		{"def place p { place q { x() = out(q) in x() } in go r; out(p) } and place r { in stop } in 0", []int{0}, "-1 3 1 0; 0@0[f0 c0 p1 p2 p3]; 0.0@2(); 5@3[f0 c0 p1 p2 p3]", "went 1 3, said 1 0(p1)"},
		{"def place p { place q { x() = out(q) in x() | (watch p; 0) } in go r; out(p) } and place r { in stop } in watch q; 0", []int{0, 0, 0}, "-1 3! 1! 0!; 0@0[f0 c0 p1 p2 p3]; 0.0@2", "went 1 3, said 1 0(p1), died 3, told 0 2"},
		{"def place p { in go q; go r; go q; 0 } and place q { in 0 } and place r { in 0 } in 0", []int{0, 0, 0}, "-1 2 0 0; 0@0[p1 p2 p3]", "went 1 2, went 1 3, went 1 2"},
		// The place 0 stops with all there is.
		{"def x() = stop and place p { in (watch p; 0) | stop } in x() | x()", []int{2, 1}, "-1! 0!; 0@0[c0 p1]; 0.0@0", "took 0 0.0(), died 0"},
		// A process that goes on waits behind all others.
		{"(def place p { in stop } in watch p; watch p; 0) | (watch q; 0)", []int{0, 0}, "-1 0!; 0@0[f0 p1]; 6@0[f0]; 4@0[f0 p1]", "died 1, told 0 1"},
	} {
		p := program(x.source)
		u, l, e := sol.Run(p, firstOf(t, p), x.picks)
		if e != api.OK || show(u) != x.shown || showEvents(l) != x.events {
			t.Error(x.source, show(u), showEvents(l), e)
		}
	}
}

// keeps reports whether what was dead is dead, and has got nothing.
func keeps(s, u api.Sol) bool {
	for i, x := range s.Spots {
		if x.Dead && !u.Spots[i].Dead {
			return false
		}
	}
	for i, c := range s.Chans {
		if s.Spots[c.At].Dead && len(u.Chans[i].Queue) > 0 {
			return false
		}
	}
	return !slices.ContainsFunc(u.Chans, func(c api.SolQ) bool { return u.Spots[c.At].Dead && len(c.Queue) > 0 })
}

// P6.4: each step of solutions of runs, and of others, against the second reading.
func TestDoOfMade(t *testing.T) {
	deeds, much := map[api.SolDeed]int{}, 0
	solutions(t, 400, func(seed int64, r *rand.Rand, p api.ScopeProg, s api.Sol) {
		l := stepsOf(t, p, s)
		waits := slices.DeleteFunc(slices.Clone(l), func(x api.SolStep) bool { return x.Wait < 0 })
		for i := range min(len(l), 12) {
			x := l[r.Intn(len(l))]
			if i < len(waits) {
				x = waits[i]
			}
			u, seen, e := sol.Do(p, s, x)
			w := worldOf(p, s)
			w.step(x)
			switch {
			case e == api.ErrLong && w.tooMuch() && show(u)+showEvents(seen) == "":
				much++
				continue
			case e != api.OK || w.tooMuch() || show(u) != show(w.written()) || showEvents(seen) != showEvents(w.seen):
				t.Fatal(seed, p, show(s), showStep(x), show(u), showEvents(seen), e)
			case !formed(p, u) || sol.Check(p, u) != api.OK || !keeps(s, u):
				t.Fatal(seed, p, show(s), showStep(x), show(u))
			}
			for _, x := range seen {
				deeds[x.Deed]++
			}
		}
	})
	for d := api.SolTook; d <= api.SolSaid; d++ {
		if deeds[d] < 120 || much < 10 {
			t.Error("too few:", deeds, much)
		}
	}
}

// P6.4: as much as there can be behind a step, and one more.
func TestDoTooMuch(t *testing.T) {
	for _, x := range []struct {
		source string
		steps  int // that can be done, always the first one
		most   func(s api.Sol) int
		many   int
	}{
		{"def m() = (def place p { in 0 } in m()) in m()", 23, func(s api.Sol) int { return len(s.Spots) }, 24},
		{"def m() = (def x() = 0 in m()) in m()", 39, func(s api.Sol) int { return len(s.Groups) }, 40},
		{"def m() = (def x() & y() & z() = 0 in m()) and n() & o() = 0 in m()", 19, func(s api.Sol) int { return len(s.Chans) }, 60},
		{"def m() = (go q; 0) | m() in m()", 40, func(s api.Sol) int { return len(s.Waits) }, 40},
		{"def m() = m() | n() and n() & o() = 0 in m()", 12, func(s api.Sol) int { return len(s.Chans[1].Queue) }, 12},
	} {
		p := program(x.source)
		s := firstOf(t, p)
		for range x.steps {
			u, _, e := sol.Do(p, s, stepsOf(t, p, s)[0])
			if e != api.OK {
				t.Fatal(x.source, show(s), e)
			}
			s = u
		}
		u, l, e := sol.Do(p, s, stepsOf(t, p, s)[0])
		if x.most(s) != x.many || e != api.ErrLong || show(u)+showEvents(l) != "" {
			t.Error(x.source, show(s), show(u), showEvents(l), e)
		}
	}
}

// P6.4: what a step takes is not there any more when it is asked what is too much.
func TestDoNotTooMuch(t *testing.T) {
	const waits = "def place r { m() = (go q; 0) | m() in m() } and place p { in go r; "
	for _, x := range []struct {
		source string
		fills  int // steps of the first rule, so that there is no room left
		picks  []int
		want   []api.Errno
	}{
		{"def x() = x() in " + beside("x()", 12), 0, []int{0, 3}, []api.Errno{api.OK, api.OK}},
		{"def x() & y() = x() | y() in y() | " + beside("x()", 12), 0, []int{0, 11}, []api.Errno{api.OK, api.OK}},
		{"def x() = x() | x() in " + beside("x()", 12), 0, []int{0}, []api.Errno{api.ErrLong}},
		{"def y() = x() and x() = 0 in y() | " + beside("x()", 12), 0, []int{0, 1, 0}, []api.Errno{api.ErrLong, api.OK, api.OK}},
		{waits + "go r; 0 } in 0", 39, []int{0, 1, 0, 0}, []api.Errno{api.OK, api.ErrLong, api.OK, api.OK}},
		{waits + "((go r; 0) | (go r; 0)) } in 0", 39, []int{0}, []api.Errno{api.ErrLong}},
		{waits + "((watch q; 0) | stop) } in 0", 38, []int{0, 1, 0, 0}, []api.Errno{api.OK, api.ErrLong, api.OK, api.OK}},
	} {
		p := program(x.source)
		s := behind(t, p, firstOf(t, p), slices.Repeat([]int{1}, x.fills)...)
		for i, pick := range x.picks {
			u, _, e := sol.Do(p, s, stepsOf(t, p, s)[pick])
			if e != x.want[i] {
				t.Error(x.source, i, show(s), e)
			}
			if e == api.OK {
				s = u
			}
		}
	}
}

// P6.4: what is none of the steps.
func TestDoRefused(t *testing.T) {
	p := program(example)
	s := firstOf(t, p)
	for _, x := range []api.SolStep{
		{Wait: 1}, {Wait: 2}, {Wait: -2}, {Wait: 1 << 62}, {Wait: -1 << 63},
		{Group: 1}, {Rule: 1}, {Picks: []int{0}}, {Picks: []int{0, 0}}, {Group: -1}, {Rule: -1},
		{Wait: -1}, {Wait: -1, Picks: []int{0}}, {Wait: -1, Picks: []int{0, 0, 0}}, {Wait: -1, Picks: []int{2, 0}}, {Wait: -1, Picks: []int{0, 1}}, {Wait: -1, Picks: []int{-1, 0}}, {Wait: -1, Picks: []int{0, -1 << 63}}, {Wait: -1, Picks: []int{1 << 62, 0}},
		{Wait: -1, Group: 1, Picks: []int{0, 0}}, {Wait: -1, Group: -1, Picks: []int{0, 0}}, {Wait: -1, Group: 1 << 62, Picks: []int{0, 0}}, {Wait: -1, Rule: 1, Picks: []int{0, 0}}, {Wait: -1, Rule: -1 << 63, Picks: []int{0, 0}},
		{Wait: -2, Picks: []int{0, 0}}, {Wait: 3, Picks: []int{0, 0}},
	} {
		if u, l, e := sol.Do(p, s, x); e != api.ErrNone || show(u)+showEvents(l) != "" {
			t.Error(showStep(x), show(u), showEvents(l), e)
		}
	}
}

// P6.4: steps of one solution that are asked of another one.
func TestDoOfOthers(t *testing.T) {
	done, none := 0, 0
	solutions(t, 300, func(seed int64, r *rand.Rand, p api.ScopeProg, s api.Sol) {
		l := worldOf(p, s).steps()
		for range 8 {
			x := api.SolStep{Wait: r.Intn(4) - 1, Group: r.Intn(2), Rule: r.Intn(2), Picks: make([]int, r.Intn(3))}
			if len(l) > 0 && r.Intn(2) == 0 {
				x = l[r.Intn(len(l))]
				sample.Near(r.Intn, []*int{&x.Wait, &x.Group, &x.Rule}[r.Intn(3)])
			}
			is := slices.ContainsFunc(l, func(y api.SolStep) bool { return showStep(y) == showStep(x) })
			u, seen, e := sol.Do(p, s, x)
			switch {
			case is && e == api.OK, is && e == api.ErrLong:
				done++
			case !is && e == api.ErrNone && show(u)+showEvents(seen) == "":
				none++
			default:
				t.Fatal(seed, p, show(s), showStep(x), e)
			}
		}
	})
	if done < 1000 || none < 5000 {
		t.Error("too few:", done, none)
	}
}
