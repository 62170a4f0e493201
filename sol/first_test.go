package sol_test

import (
	"math/rand"
	"testing"

	"cabotage/api"
	"cabotage/internal/sample"
	"cabotage/scope"
	"cabotage/sol"
)

// P6.2: the solution at first, and what is said.
func TestFirst(t *testing.T) {
	for _, x := range []struct{ source, shown, events string }{
		{"0", "-1", ""},
		{example, "-1 0; 0@0[f0 c0 c1 p1]; 0.0@0(1)(2); 0.1@0(); 2@1[f0 c0 c1 p1]; 9@0[f0 c0 c1 p1]", ""},
		// What is said: in order, the places of a definition before its Kid.
		{"out() | out(1, 2, 3)", "-1", "said 0 0(), said 0 0(1 2 3)"},
		{"out(q) | q(out)", "-1", "said 0 0(f1), said 0 1(f0)"},
		{"(out(1) | out(2)) | (out(3) | out(4))", "-1", "said 0 0(1), said 0 0(2), said 0 0(3), said 0 0(4)"},
		{"def place p { in out(1) } and place q { in out(q) } in out(p) | out(4)", "-1 0 0; 0@0[f0 p1 p2]", "said 1 0(1), said 2 0(p2), said 0 0(p1), said 0 0(4)"},
		// Places in places, and channels in them.
		{"def place p { x() = 0 and place r { y() = 0 in out(1) } in out(2) } and z() = 0 in out(3)", "-1 0 1; 0@0[f0 c0 c1 c2 p1 p2]; 0.0@0; 0.1@1; 0.2@2", "said 1 0(2), said 2 0(1), said 0 0(3)"},
		{"def place p { in def place r { x() = 0 in x() } in out(r) } in (def place q { in 0 } in out(q, p))", "-1 0 1 0; 0@0[f0 p1]; 1@1[f0 p1 c0 p2]; 2@0[f0 p1 p3]; 1.0@2()", "said 1 0(p2), said 0 0(p3 p1)"},
		{"def x() = (def y() = 0 in 0) in def z() = 0 in x()", "-1; 0@0[c0]; 2@0[c0 c1]; 0.0@0(); 1.0@0", ""},
		// Which messages come: their values are those of the environment.
		{"def x(a) = 0 in x() | x(1, 2) | x(3) | x(x) | x(x + 1)", "-1; 0@0[c0]; 0.0@0(3)(c0)(1)", ""},
		{"def x() = 0 in x() | x(1) | x()", "-1; 0@0[c0]; 0.0@0()()", ""},
		{"def x(a, b) = 0 and place p { in x(out, p) } in x(1 < 2, p == 0) | p(1) | x(1)", "-1 0; 0@0[f0 c0 p1]; 0.0@0(f0 p1)(1 1)", ""},
		// Choices.
		{"if 0 then out(1) else out(2)", "-1", "said 0 0(2)"},
		{"if 7 then out(1) else out(2)", "-1", "said 0 0(1)"},
		{"if 0 - 1 then out(1) else out(2)", "-1", "said 0 0(1)"},
		{"if out then out(1) else out(2)", "-1", "said 0 0(2)"},
		{"def x() = 0 and place p { in if x then out(1) else out(2) } in if p then out(1) else out(2)", "-1 0; 0@0[f0 c0 p1]; 0.0@0", "said 1 0(2), said 0 0(2)"},
		{"if out == q then out(1) else q(2)", "-1", "said 0 0(1)"},
		// What waits.
		{"(go q; out(1)) | stop | (watch q; 0)", "-1; 1@0[f0 f1]; 4@0[f0 f1]; 5@0[f0 f1]", ""},
		{"def place p { in go p; 0 } in def place r { in stop } in watch r; out(p)", "-1 0 0; 0@0[f0 p1]; 1@0[f0 p1 p2]; 1@1[f0 p1]; 4@2[f0 p1 p2]; 5@0[f0 p1 p2]", ""},
	} {
		p := program(x.source)
		s, l, e := sol.First(p)
		if e != api.OK || show(s) != x.shown || showEvents(l) != x.events {
			t.Error(x.source, show(s), showEvents(l), e)
		}
		if e := sol.Check(p, s); e != api.OK {
			t.Error(x.source, e)
		}
	}
}

// P6.2: programs against the second reading; those that are not in order too.
func TestFirstOfMade(t *testing.T) {
	said, much := 0, 0
	programs(t, 1200, func(seed int64, r *rand.Rand, p api.ScopeProg) {
		s, l, e := sol.First(p)
		w := begun(p)
		switch {
		case e == api.ErrLong && w.tooMuch() && show(s)+showEvents(l) == "":
			much++
		case e != api.OK || w.tooMuch() || show(s) != show(w.written()) || showEvents(l) != showEvents(w.seen) || !formed(p, s):
			t.Error(seed, p, show(s), showEvents(l), e)
		case len(l) > 0:
			said++
		}
	})
	if said < 250 {
		t.Error("too few:", said, much)
	}
}

// P6.2: as much as there can be at first, and one more.
func TestFirstTooMuch(t *testing.T) {
	messages := "def x() = 0 in " + beside("x()", 12)
	for i, x := range []struct {
		p                           api.ScopeProg
		e                           api.Errno
		spots, groups, chans, waits int
	}{
		{spread(23), api.OK, 24, 1, 0, 0}, {spread(24), api.ErrLong, 0, 0, 0, 0},
		{linked(30, 30), api.OK, 1, 2, 60, 0}, {linked(30, 30, 1), api.ErrLong, 0, 0, 0, 0}, {linked(30, 1, 30), api.ErrLong, 0, 0, 0, 0},
		{stopping(22, 18), api.OK, 23, 1, 0, 40}, {stopping(22, 19), api.ErrLong, 0, 0, 0, 0},
		{program(messages), api.OK, 1, 1, 1, 0}, {program(messages + " | x()"), api.ErrLong, 0, 0, 0, 0}, {program(messages + " | x(1)"), api.OK, 1, 1, 1, 0}, {program("def x(a) = 0 in " + beside("x()", 13)), api.OK, 1, 1, 1, 0},
		{program("out(1) | (" + messages + " | x())"), api.ErrLong, 0, 0, 0, 0},
	} {
		if scope.Check(x.p) != api.OK {
			t.Fatal(i, x.p)
		}
		s, l, e := sol.First(x.p)
		if e != x.e || len(l) > 0 || len(s.Spots) != x.spots || len(s.Groups) != x.groups || len(s.Chans) != x.chans || len(s.Waits) != x.waits {
			t.Error(i, show(s), showEvents(l), e)
		}
	}
}

// P6.2: what is refused.
func TestFirstRefused(t *testing.T) {
	for _, p := range sample.Unformed(example) {
		if s, l, e := sol.First(p); e != api.ErrArg || show(s)+showEvents(l) != "" {
			t.Error(p, show(s), showEvents(l), e)
		}
	}
}
