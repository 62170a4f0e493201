package flat_test

import (
	"math/rand"
	"slices"
	"testing"

	"cabotage/api"
	"cabotage/flat"
	"cabotage/internal/sample"
	"cabotage/sol"
)

// P7.4: flat solutions at first, and what is said.
func TestFirst(t *testing.T) {
	for _, x := range []struct{ source, shown, events string }{
		{"0", "-1", ""},
		{"stop", "-1; 0@0[]", ""},
		{"log(out) | out(1 + 2, log)", "-1", "said 0 0(f1), said 0 1(3 f0)"},
		{"(go q; out(1)) | stop | (watch q; 0)", "-1; 1@0[f0 f1]; 4@0[]; 5@0[f1]", ""},
		{"def x(a) = 0 in x() | x(1) | x(x) | x(1, 2)", "-1; 0@0[c0]; 0.0@0(1)(c0)", ""},
		{"def x(a) = out(a) and place p { in q(x) } in if p == p then out(q) else 0", "-1 0; 0@0[f0 f1 c0 p1]; 0.0@0", "said 1 1(c0), said 0 0(f1)"},
		{"def x() = (def y() = log() in 0) in def z() = x() in x() | z()", "-1; 0@0[f0 c0]; 2@0[c0 c1]; 0.0@0(); 1.0@0()", ""},
		{"def place p { in def place r { x() = 0 in x() } in log(r) } in (def place q { in 0 } in log(q, p))", "-1 0 1 0; 0@0[f0 p1]; 1@1[c0 p2]; 2@0[p3]; 1.0@2()", "said 1 0(p2), said 0 0(p3 p1)"},
		{"def place p { in go p; 0 } in def place r { in stop } in watch r; out(p)", "-1 0 0; 0@0[p1]; 1@0[p2]; 1@1[p1]; 4@2[]; 5@0[f0 p1 p2]", ""},
	} {
		f := flatOf(t, x.source)
		s, l, e := flat.First(f)
		if e != api.OK || show(s) != x.shown || showEvents(l) != x.events || flat.CheckSol(f, s) != api.OK {
			t.Error(x.source, show(s), showEvents(l), e)
		}
	}
}

// P7.4: a step of each kind.
func TestDo(t *testing.T) {
	f := flatOf(t, rich)
	s := firstOf(t, f)
	for _, x := range []struct {
		step           api.SolStep
		shown, happens string
	}{
		{api.SolStep{Wait: 3}, "-1 0 0 0 3!; 0@0[f1 c0 c1 c2 p1 p2 p3 p4]; 0.0@0(4); 0.1@0(); 0.2@1(c0)(f1); 11@2[p3]; 14@3[p4]; 16@3[p4]; 24@0[f1 c2 p2]; 28@0[f0 p1 p4]", "died 4"},
		{api.SolStep{Wait: -1}, "", ""},
		{api.SolStep{Wait: -1, Picks: []int{0, 0}}, "-1 0 0 0 3!; 0@0[f1 c0 c1 c2 p1 p2 p3 p4]; 1@0[f1 4 c3]; 0.0@0; 0.1@0(); 0.2@1(c0)(f1); 1.0@0(4); 11@2[p3]; 14@3[p4]; 16@3[p4]; 24@0[f1 c2 p2]; 28@0[f0 p1 p4]", "took 0 0.0(4)"},
		{api.SolStep{Wait: -1, Group: 1, Picks: []int{0}}, "-1 0 0 0 3!; 0@0[f1 c0 c1 c2 p1 p2 p3 p4]; 1@0[f1 4 c3]; 0.0@0; 0.1@0(); 0.2@1(c0)(f1); 1.0@0; 11@2[p3]; 14@3[p4]; 16@3[p4]; 24@0[f1 c2 p2]; 28@0[f0 p1 p4]", "took 0 1.0(4), said 0 1(8 4)"},
		{api.SolStep{Wait: -1, Rule: 1, Picks: []int{1}}, "-1 0 0 0 3!; 0@0[f1 c0 c1 c2 p1 p2 p3 p4]; 1@0[f1 4 c3]; 0.0@0; 0.1@0(); 0.2@1(c0); 1.0@0; 11@2[p3]; 14@3[p4]; 16@3[p4]; 24@0[f1 c2 p2]; 28@0[f0 p1 p4]; 6@1[p2 f1]", "took 1 0.1(f1)"},
		{api.SolStep{Wait: 5}, "-1 2 0 0 3!; 0@0[f1 c0 c1 c2 p1 p2 p3 p4]; 1@0[f1 4 c3]; 0.0@0; 0.1@0(); 0.2@1(c0); 1.0@0; 11@2[p3]; 14@3[p4]; 16@3[p4]; 24@0[f1 c2 p2]; 28@0[f0 p1 p4]", "went 1 2, said 1 1(1)"},
		{api.SolStep{Wait: 4}, "-1 2 0 0 3!; 0@0[f1 c0 c1 c2 p1 p2 p3 p4]; 1@0[f1 4 c3]; 0.0@0; 0.1@0(); 0.2@1(c0); 1.0@0; 11@2[p3]; 14@3[p4]; 16@3[p4]; 24@0[f1 c2 p2]; 29@0[f0 p1]", "told 0 4"},
		{api.SolStep{Wait: 2}, "-1 2 0 0 3!; 0@0[f1 c0 c1 c2 p1 p2 p3 p4]; 1@0[f1 4 c3]; 0.0@0; 0.1@0(); 0.2@1(c0); 1.0@0; 11@2[p3]; 14@3[p4]; 24@0[f1 c2 p2]; 29@0[f0 p1]; 17@3[]", "told 3 4"},
		{api.SolStep{Wait: 4}, "-1 2 0 0! 3!; 0@0[f1 c0 c1 c2 p1 p2 p3 p4]; 1@0[f1 4 c3]; 0.0@0; 0.1@0(); 0.2@1(c0); 1.0@0; 11@2[p3]; 24@0[f1 c2 p2]; 29@0[f0 p1]", "died 3"},
		{api.SolStep{}, "-1 2 0 0! 3!; 0@0[f1 c0 c1 c2 p1 p2 p3 p4]; 1@0[f1 4 c3]; 0.0@0; 0.1@0(); 0.2@1(c0); 1.0@0; 24@0[f1 c2 p2]; 29@0[f0 p1]; 12@2[]", "told 2 3"},
		{api.SolStep{Wait: 2}, "-1 2! 0! 0! 3!; 0@0[f1 c0 c1 c2 p1 p2 p3 p4]; 1@0[f1 4 c3]; 0.0@0; 0.1@0(); 0.2@1; 1.0@0; 24@0[f1 c2 p2]; 29@0[f0 p1]", "died 2"}, // with what is within
		{api.SolStep{}, "-1 2! 0! 0! 3!; 0@0[f1 c0 c1 c2 p1 p2 p3 p4]; 1@0[f1 4 c3]; 0.0@0; 0.1@0(); 0.2@1; 1.0@0; 29@0[f0 p1]", "told 0 2"},                      // the message is lost
		{api.SolStep{}, "", ""}, // its place is dead
	} {
		u, l, e := flat.Do(f, s, x.step)
		if x.shown == "" {
			if e != api.ErrNone || show(u)+showEvents(l) != "" {
				t.Error(showStep(x.step), show(u), showEvents(l), e)
			}
			continue
		}
		if e != api.OK || show(u) != x.shown || showEvents(l) != x.happens {
			t.Fatal(showStep(x.step), show(u), showEvents(l), e)
		}
		s = u
	}
}

// P7.4: which steps there are, behind some others.
func TestSteps(t *testing.T) {
	for _, x := range []struct {
		source string
		picks  []int
		steps  string
	}{
		{"0", nil, ""},
		{example, nil, "0"}, // only the place can stop: the place 0 goes nowhere
		{"def x() & y() & z() = 0 in x() | y() | x() | z() | z()", nil, "0.0 [0 0 0], 0.0 [0 0 1], 0.0 [1 0 0], 0.0 [1 0 1]"},
		{"def x() & y() = 0 and y() & x() = 0 and y() = 0 in x() | y() | y()", nil, "0.0 [0 0], 0.0 [0 1], 0.1 [0 0], 0.1 [1 0], 0.2 [0], 0.2 [1]"},
		{"def x() = (def y() = 0 and z() = 0 in y() | z()) in x() | x() | x()", []int{0, 0}, "0.0 [0], 1.0 [0], 1.1 [0], 2.0 [0], 2.1 [0]"},
		{"def x() = 0 in x() | (go q; 0) | (watch q; 0) | stop | stop", nil, "2, 3, 0.0 [0]"},
		{"def place p { in go q; 0 } and place q { in go p; 0 } in 0", []int{0}, ""},
		{"def place p { place q { place r { in 0 } in 0 } in (go r; 0) | (go q; 0) } and place s { in go r; 0 } in 0", nil, "2"},
		{"def place p { in stop } and place q { in (go p; 0) | (watch p; 0) | (watch q; 0) } in 0", nil, "0, 1"},
		{"def place p { in stop } and place q { in (go p; 0) | (watch p; 0) | (watch q; 0) } in 0", []int{0}, "1"},
		{"def place s { x(a) = (go a; 0) | (watch a; 0) in x(1) | x(out) | x(x) | x(p) | x(0) } and place p { in 0 } in 0", []int{0, 0, 0, 0}, "6, 0.0 [0]"},
		{"def place p { place q { x() = 0 in x() | stop } in 0 } and y() = stop in stop", []int{1}, ""},
	} {
		f := flatOf(t, x.source)
		if l := stepsOf(t, f, behind(t, f, firstOf(t, f), x.picks...)); showSteps(l) != x.steps {
			t.Error(x.source, x.picks, showSteps(l))
		}
	}
}

// P7.4: steps that are too many to be gone through again and again.
func TestStepsOfCrowded(t *testing.T) {
	p, s := sample.Crowded(20)
	f := treeOf(p).laid(takings{})
	n, e := flat.Count(f, s)
	if n != 20*15*1728 || e != api.OK {
		t.Error(n, e)
	}
	for i, want := range map[int]string{0: "0.0 [0 0 0]", 11: "0.0 [0 0 11]", 12: "0.0 [0 1 0]", 1727: "0.0 [11 11 11]", 1728: "0.1 [0 0 0]", 20*15*1728 - 1: "19.14 [11 11 11]", 7*15*1728 + 3*1728 + 5*144 + 6*12 + 7: "7.3 [5 6 7]"} {
		if x, e := flat.Nth(f, s, i); showStep(x) != want || e != api.OK {
			t.Error(i, showStep(x), e)
		}
	}
	if u, _, e := flat.Run(f, s, slices.Repeat([]int{1 << 62}, api.SolTurns)); e != api.OK || len(u.Chans) != 60 {
		t.Error(show(u), e)
	}
}

// P7.4: runs by numbers.
func TestRun(t *testing.T) {
	const first = "-1 0; 0@0[f0 c0 c1 p1]; 0.0@0(1)(2); 0.1@0(); 2@1[]; 9@0[c0 p1]"
	const source = "def x(a) & y() = out(a) and place p { in stop } in x(1) | x(2) | y() | watch p; x(3)"
	for _, x := range []struct {
		source        string
		picks         []int
		shown, events string
	}{
		{source, nil, first, ""},
		{source, []int{}, first, ""},
		{source, []int{0, 0}, "-1 0!; 0@0[f0 c0 c1 p1]; 0.0@0(1)(2)(3); 0.1@0()", "died 1, told 0 1"},
		// A number counts modulo how many steps there are; one below 0 as 0.
		{source, []int{3, 6}, "-1 0!; 0@0[f0 c0 c1 p1]; 0.0@0(1)(2)(3); 0.1@0()", "died 1, told 0 1"},
		{source, []int{-1, -1 << 63}, "-1 0!; 0@0[f0 c0 c1 p1]; 0.0@0(1)(2)(3); 0.1@0()", "died 1, told 0 1"},
		{source, []int{5}, "-1 0; 0@0[f0 c0 c1 p1]; 0.0@0(1); 0.1@0; 2@1[]; 9@0[c0 p1]", "took 0 0.0(2), said 0 0(2)"},
		{source, []int{1 << 62}, "-1 0; 0@0[f0 c0 c1 p1]; 0.0@0(2); 0.1@0; 2@1[]; 9@0[c0 p1]", "took 0 0.0(1), said 0 0(1)"}, // 2^62 = 1 modulo 3
		// It ends where there is no step.
		{source, []int{2, 0, 0, 0, 0, 0}, "-1 0!; 0@0[f0 c0 c1 p1]; 0.0@0(1)(3); 0.1@0", "took 0 0.0(2), said 0 0(2), died 1, told 0 1"},
		{"0", []int{0, 7}, "-1", ""},
		{"def x(a) = out(a) and place p { y() = go q; x(1) in y() } and place q { in 0 } in 0", []int{0, 0, 0, 0}, "-1 2 0; 0@0[f0 c0 c1 p1 p2]; 0.0@0; 0.1@1", "took 1 0.1(), went 1 2, took 0 0.0(1), said 0 0(1)"},
		{"def x(a, b) & y() & z(c) = out(c, b, a) in y() | z(3) | z(4) | x(5, 6) | x(x, out)", []int{3}, "-1; 0@0[f0 c0 c1 c2]; 0.0@0(5 6); 0.1@0; 0.2@0(3)", "took 0 0.0(c0 f0 4), said 0 0(4 f0 c0)"},
		// What a definition took when it was done is in the definitions of its rules, and in what waits there.
		{"def x(a) = (def y(b) = (watch q; log(a, b)) | y(a + b) in y(1)) in x(7)", []int{0, 0, 0}, "-1; 0@0[f0 f1 c0]; 1@0[f0 f1 7 c1]; 0.0@0; 1.0@0(15); 3@0[f0 f1 7 1]; 3@0[f0 f1 7 8]", "took 0 0.0(7), took 0 1.0(1), took 0 1.0(8)"},
		{"def x(a) = if a then (def place p { in (watch r; a(p)) | log(a) } in x(a - 1)) else stop in x(1)", []int{0, 0, 0}, "-1! 0!; 0@0[f0 f1 c0]; 1@0[f0 f1 1 p1]; 0.0@0", "took 0 0.0(1), said 1 0(1), took 0 0.0(0), died 0"},
	} {
		f := flatOf(t, x.source)
		u, l, e := flat.Run(f, firstOf(t, f), x.picks)
		if e != api.OK || show(u) != x.shown || showEvents(l) != x.events {
			t.Error(x.source, x.picks, show(u), showEvents(l), e)
		}
	}
}

// P7.4: as many numbers as can be, and one more, whether or not there are so many steps.
func TestRunLong(t *testing.T) {
	for source, many := range map[string]int{"def x() = x() in x()": api.SolTurns, "0": 0, "def x() = x() | x() in 0": 0} {
		f := flatOf(t, source)
		s := firstOf(t, f)
		if u, l, e := flat.Run(f, s, make([]int, api.SolTurns)); e != api.OK || show(u) != show(s) || len(l) != many {
			t.Error(source, show(u), showEvents(l), e)
		}
		for _, picks := range [][]int{make([]int, api.SolTurns+1), make([]int, 1<<20)} {
			if u, l, e := flat.Run(f, s, picks); e != api.ErrLong || show(u)+showEvents(l) != "" {
				t.Error(source, show(u), showEvents(l), e)
			}
		}
	}
}

// P7.4: as much as there can be, and one more; of what is before nothing is returned.
func TestTooMuch(t *testing.T) {
	for _, x := range []struct {
		source string
		steps  int // that can be done, always the first one
		most   func(s api.Sol) int
		many   int
	}{
		{"def m() = (def place p { in 0 } in m()) in m()", 23, func(s api.Sol) int { return len(s.Spots) }, api.SolSpots},
		{"def m() = (def x() = 0 in m()) in m()", 39, func(s api.Sol) int { return len(s.Groups) }, api.SolGroups},
		{"def m() = (def x() & y() & z() = 0 in m()) and n() & o() = 0 in m()", 19, func(s api.Sol) int { return len(s.Chans) }, api.SolChans},
		{"def m() = (go q; 0) | m() in m()", 40, func(s api.Sol) int { return len(s.Waits) }, api.SolWaits},
		{"def m() = log() | m() | n() and n() & o() = 0 in m()", 12, func(s api.Sol) int { return len(s.Chans[1].Queue) }, api.SolQueue},
	} {
		f := flatOf(t, x.source)
		first := firstOf(t, f)
		s := behind(t, f, first, make([]int, x.steps)...)
		if x.most(s) != x.many {
			t.Error(x.source, show(s))
		}
		if u, l, e := flat.Do(f, s, stepsOf(t, f, s)[0]); e != api.ErrLong || show(u)+showEvents(l) != "" {
			t.Error(x.source, show(u), showEvents(l), e)
		}
		if u, l, e := flat.Run(f, first, make([]int, x.steps+1)); e != api.ErrLong || show(u)+showEvents(l) != "" {
			t.Error(x.source, show(u), showEvents(l), e)
		}
	}
	messages := "def x() = 0 in log() | " + sample.Beside("x()", 12)
	for i, x := range []struct {
		p api.ScopeProg
		e api.Errno
	}{
		{sample.Spread(23), api.OK}, {sample.Spread(24), api.ErrLong},
		{sample.Linked(30, 30), api.OK}, {sample.Linked(30, 30, 1), api.ErrLong},
		{sample.Stopping(22, 18), api.OK}, {sample.Stopping(22, 19), api.ErrLong},
		{program(messages), api.OK}, {program(messages + " | x()"), api.ErrLong}, {program(messages + " | x(1)"), api.OK},
	} {
		f, e := flat.Flat(x.p)
		if e != api.OK {
			t.Fatal(i, e)
		}
		s, l, e := flat.First(f)
		if e != x.e || e != api.OK && show(s)+showEvents(l) != "" || e == api.OK && flat.CheckSol(f, s) != api.OK {
			t.Error(i, show(s), showEvents(l), e)
		}
	}
}

// P7.4: what a step takes is not there any more when it is asked what is too much.
func TestNotTooMuch(t *testing.T) {
	const waits = "def place r { m() = (go q; 0) | m() in m() } and place p { in go r; "
	for _, x := range []struct {
		source string
		fills  int // steps of the first rule, so that there is no room left
		pick   int
		want   api.Errno
	}{
		{"def x() = x() in " + sample.Beside("x()", 12), 0, 3, api.OK},
		{"def x() = x() | x() in " + sample.Beside("x()", 12), 0, 0, api.ErrLong},
		{waits + "go r; 0 } in 0", 39, 0, api.OK},
		{waits + "((go r; 0) | (go r; 0)) } in 0", 39, 0, api.ErrLong},
	} {
		f := flatOf(t, x.source)
		s := behind(t, f, firstOf(t, f), slices.Repeat([]int{1}, x.fills)...)
		if _, _, e := flat.Do(f, s, stepsOf(t, f, s)[x.pick]); e != x.want {
			t.Error(x.source, show(s), e)
		}
	}
}

// P7.4: what is none of the steps, and no number of one.
func TestDoRefused(t *testing.T) {
	f := flatOf(t, "def x(a) & y() = out(a) and place p { in stop } in x(1) | x(2) | y() | watch p; x(3)")
	s := firstOf(t, f)
	for _, x := range []api.SolStep{
		{Wait: 1}, {Wait: 2}, {Wait: -2}, {Wait: 1 << 62}, {Wait: -1 << 63},
		{Group: 1}, {Rule: 1}, {Picks: []int{0}}, {Picks: []int{0, 0}}, {Group: -1}, {Rule: -1},
		{Wait: -1}, {Wait: -1, Picks: []int{0}}, {Wait: -1, Picks: []int{0, 0, 0}}, {Wait: -1, Picks: []int{2, 0}}, {Wait: -1, Picks: []int{0, 1}}, {Wait: -1, Picks: []int{-1, 0}}, {Wait: -1, Picks: []int{0, -1 << 63}}, {Wait: -1, Picks: []int{1 << 62, 0}},
		{Wait: -1, Group: 1, Picks: []int{0, 0}}, {Wait: -1, Group: -1, Picks: []int{0, 0}}, {Wait: -1, Group: 1 << 62, Picks: []int{0, 0}}, {Wait: -1, Rule: 1, Picks: []int{0, 0}}, {Wait: -1, Rule: -1 << 63, Picks: []int{0, 0}},
		{Wait: -2, Picks: []int{0, 0}}, {Wait: 3, Picks: []int{0, 0}},
	} {
		if u, l, e := flat.Do(f, s, x); e != api.ErrNone || show(u)+showEvents(l) != "" {
			t.Error(showStep(x), show(u), showEvents(l), e)
		}
	}
	for _, n := range []int{-1, 3, 4, 1 << 62, -1 << 63} {
		if x, e := flat.Nth(f, s, n); e != api.ErrNone || written(x) != written(api.SolStep{}) {
			t.Error(n, x, e)
		}
	}
}

// P7.4: the flat solution at first is that of the solution at first, with the same events.
func TestFirstOfMade(t *testing.T) {
	said := 0
	flats(t, 1000, func(seed int64, r *rand.Rand, p api.ScopeProg, _ takings, f api.FlatProg) {
		s, l, e := flat.First(f)
		u, m, want := sol.First(p)
		y, _ := read(f)
		if e != want || show(s) != show(y.flattened(u)) || showEvents(l) != showEvents(m) {
			t.Fatal(seed, f, show(s), showEvents(l), e)
		}
		said += number(len(l) > 0)
	})
	if said < 200 {
		t.Error("too few:", said)
	}
}

// P7.4: the steps of a flat solution are those of the filled one, which are those of the solution.
func TestStepsOfMade(t *testing.T) {
	waits, rules := 0, 0
	solutions(t, 300, func(seed int64, r *rand.Rand, p api.ScopeProg, f api.FlatProg, s api.Sol) {
		y, _ := read(f)
		v := y.flattened(s)
		full, _ := y.filled(v)
		l := stepsOf(t, f, v)
		for _, of := range []api.Sol{s, full} {
			n, _ := sol.Count(p, of)
			if n != len(l) {
				t.Fatal(seed, f, show(v), showSteps(l), n)
			}
			for i, x := range l {
				if want, e := sol.Nth(p, of, i); e != api.OK || showStep(x) != showStep(want) {
					t.Fatal(seed, f, show(v), i, showSteps(l))
				}
			}
		}
		for _, x := range l {
			waits += number(x.Wait >= 0)
			rules += number(len(x.Picks) > 1)
		}
		for _, n := range []int{-1, len(l), 1<<63 - 1} {
			if x, e := flat.Nth(f, v, n); e != api.ErrNone || written(x) != written(api.SolStep{}) {
				t.Fatal(seed, n, x, e)
			}
		}
	})
	if waits < 1000 || rules < 1000 {
		t.Error("too few:", waits, rules)
	}
}

// P7.4: each step, and what is none, of flat solutions: what it becomes is the flat solution of what the solution becomes, and of what the filled one becomes, with the same events.
func TestDoOfMade(t *testing.T) {
	deeds, much, none := map[api.SolDeed]int{}, 0, 0
	solutions(t, 300, func(seed int64, r *rand.Rand, p api.ScopeProg, f api.FlatProg, s api.Sol) {
		y, _ := read(f)
		v := y.flattened(s)
		full, _ := y.filled(v)
		l := stepsOf(t, f, v)
		for range min(len(l), 12) {
			x := l[r.Intn(len(l))]
			if r.Intn(4) == 0 {
				sample.Near(r.Intn, []*int{&x.Wait, &x.Group, &x.Rule}[r.Intn(3)])
			}
			u, seen, e := flat.Do(f, v, x)
			for _, of := range []api.Sol{s, full} {
				w, m, want := sol.Do(p, of, x)
				if e != want || show(u) != show(y.flattened(w)) || showEvents(seen) != showEvents(m) {
					t.Fatal(seed, f, show(v), showStep(x), show(u), showEvents(seen), e, want)
				}
			}
			if e == api.OK && flat.CheckSol(f, u) != api.OK {
				t.Fatal(seed, f, show(v), showStep(x), show(u))
			}
			for _, x := range seen {
				deeds[x.Deed]++
			}
			much += number(e == api.ErrLong)
			none += number(e == api.ErrNone)
		}
	})
	for d := api.SolTook; d <= api.SolSaid; d++ {
		if deeds[d] < 80 || much < 10 || none < 500 {
			t.Error("too few:", deeds, much, none)
		}
	}
}

// P7.4: a run by some numbers has the same events as the run of the program by them, whatever is taken; and it is its parts.
func TestRunOfMade(t *testing.T) {
	long, much := 0, 0
	solutions(t, 300, func(seed int64, r *rand.Rand, p api.ScopeProg, f api.FlatProg, s api.Sol) {
		picks := make([]int, r.Intn(14))
		for i := range picks {
			picks[i] = []int{-1, 0, 0, r.Intn(5), r.Intn(50), r.Int(), -r.Int()}[r.Intn(7)]
		}
		y, _ := read(f)
		v := y.flattened(s)
		full, _ := y.filled(v)
		u, l, e := flat.Run(f, v, picks)
		for _, of := range []api.Sol{s, full} {
			w, m, want := sol.Run(p, of, picks)
			if e != want || show(u) != show(y.flattened(w)) || showEvents(l) != showEvents(m) {
				t.Fatal(seed, f, show(v), picks, show(u), showEvents(l), e, want)
			}
		}
		long += number(len(l) > 6)
		much += number(e == api.ErrLong)
		if e != api.OK {
			return
		}
		k := r.Intn(len(picks) + 1)
		w, first, _ := flat.Run(f, v, picks[:k])
		w, second, e := flat.Run(f, w, picks[k:])
		if e != api.OK || show(w) != show(u) || showEvents(slices.Concat(first, second)) != showEvents(l) {
			t.Fatal(seed, f, show(v), picks, k, show(w), e)
		}
	})
	if long < 300 || much < 5 {
		t.Error("too few:", long, much)
	}
}

// P7.4 and P0.1: from the beginning on, all flat programs of a program have the events of its solution.
func TestRunsFromFirst(t *testing.T) {
	events := 0
	programs(t, 300, func(seed int64, r *rand.Rand, p api.ScopeProg) {
		var picks []int
		for range 40 {
			picks = append(picks, r.Intn(60))
		}
		s, _, e := sol.First(p)
		if e != api.OK {
			return
		}
		_, want, e := sol.Run(p, s, picks)
		u := treeOf(p)
		for range 3 {
			f := u.laid(loosened(r, u))
			_, l, refused := flat.Run(f, firstOf(t, f), picks)
			if refused != e || showEvents(l) != showEvents(want) {
				t.Fatal(seed, f, showEvents(l), showEvents(want), refused, e)
			}
		}
		events += len(want)
	})
	if events < 1500 {
		t.Error("too few:", events)
	}
}
