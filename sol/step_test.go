package sol_test

import (
	"math/rand"
	"testing"

	"cabotage/api"
	"cabotage/sol"
)

// P6.3: which steps there are, behind some others.
func TestSteps(t *testing.T) {
	for _, x := range []struct {
		source string
		picks  []int
		steps  string
	}{
		{"0", nil, ""},
		{example, nil, "0, 0.0 [0 0], 0.0 [1 0]"},
		{example, []int{0}, "0, 0.0 [0 0], 0.0 [1 0]"},
		{example, []int{0, 0}, "0.0 [0 0], 0.0 [1 0], 0.0 [2 0]"},
		{example, []int{2}, "0"},
		// Of a rule all must have messages; the last one of Picks counts fastest.
		{"def x() & y() & z() = 0 in x() | y() | x()", nil, ""},
		{"def x() & y() & z() = 0 in x() | y() | x() | z() | z()", nil, "0.0 [0 0 0], 0.0 [0 0 1], 0.0 [1 0 0], 0.0 [1 0 1]"},
		{"def x() & y() = 0 and y() & x() = 0 and y() = 0 in x() | y() | y() | x() | y()", nil, "0.0 [0 0], 0.0 [0 1], 0.0 [0 2], 0.0 [1 0], 0.0 [1 1], 0.0 [1 2], 0.1 [0 0], 0.1 [0 1], 0.1 [1 0], 0.1 [1 1], 0.1 [2 0], 0.1 [2 1], 0.2 [0], 0.2 [1], 0.2 [2]"},
		// Groups before rules; a group for each time that a definition was done.
		{"def x() = (def y() = 0 and z() = 0 in y() | z()) in x() | x() | x()", []int{0, 0}, "0.0 [0], 1.0 [0], 1.1 [0], 2.0 [0], 2.1 [0]"},
		// Who waits comes first; only TermStop can always go on.
		{"def x() = 0 in x() | (go q; 0) | (watch q; 0) | stop | stop", nil, "2, 3, 0.0 [0]"},
		{"def x() = stop in stop | x()", []int{1}, "0, 1"},
		// A place goes into one that lives and is not within it; the place 0 goes nowhere.
		{"def place p { in go q; 0 } and place q { in go p; 0 } in 0", nil, "0, 1"},
		{"def place p { in go p; 0 } in (go p; 0)", nil, ""},
		{"def place p { place q { place r { in 0 } in 0 } in (go r; 0) | (go q; 0) } and place s { in go r; 0 } in 0", nil, "2"},
		{"def place p { in go q; stop } and place q { in go p; 0 } in 0", []int{0}, "1"},
		{"def place p { place q { in go s; 0 } in 0 } and place s { in 0 } in 0", nil, "0"},
		{"def place p { place q { in go p; out() } in 0 } in 0", nil, "0"},
		{"def place p { in stop } and place q { in (go p; 0) | (watch p; 0) | (watch q; 0) } in 0", nil, "0, 1"},
		{"def place p { in stop } and place q { in (go p; 0) | (watch p; 0) | (watch q; 0) } in 0", []int{0}, "1"},
		// Names that are no places.
		{"def x(a) = (go a; 0) | (watch a; 0) and place p { in 0 } in def place q { in x(1) | x(out) | x(x) | x(p) } in 0", []int{0, 0, 0, 0}, ""},
		{"def place s { x(a) = (go a; 0) | (watch a; 0) in x(1) | x(out) | x(x) | x(p) | x(0) } and place p { in 0 } in 0", []int{0, 0, 0, 0}, "6, 0.0 [0]"},
		// Nothing of a dead place reacts or goes on, whatever is around it.
		{"def place p { x() = 0 in x() | stop | (watch out; 0) } in 0", []int{0}, ""},
		{"def place p { place q { x() = 0 in x() | stop } in 0 } and y() = stop in stop", []int{1}, ""},
		{"def x() = 0 and place p { in def y() = x() in y() | stop } in x()", []int{0}, "0.0 [0]"},
	} {
		p := program(x.source)
		l := stepsOf(t, p, behind(t, p, firstOf(t, p), x.picks...))
		if showSteps(l) != x.steps {
			t.Error(x.source, x.picks, showSteps(l))
		}
	}
}

// P6.3: all steps, and what is beside them, of solutions of runs and of others; they are all different.
func TestStepsOfMade(t *testing.T) {
	waits, rules := 0, 0
	solutions(t, 400, func(seed int64, r *rand.Rand, p api.ScopeProg, s api.Sol) {
		want := worldOf(p, s).steps()
		l := stepsOf(t, p, s)
		if showSteps(l) != showSteps(want) {
			t.Fatal(seed, p, show(s), showSteps(l))
		}
		seen := map[string]bool{}
		for _, x := range l {
			seen[showStep(x)] = true
			waits += number(x.Wait >= 0)
			rules += number(len(x.Picks) > 1)
		}
		if len(seen) != len(l) {
			t.Error(seed, showSteps(l))
		}
		for _, n := range []int{-1, len(l), len(l) + 1, -1 << 63, 1<<63 - 1} {
			if x, e := sol.Nth(p, s, n); e != api.ErrNone || showStep(x) != "0" {
				t.Error(seed, n, x, e)
			}
		}
	})
	if waits < 1500 || rules < 1500 {
		t.Error("too few:", waits, rules)
	}
}

// P6.3: steps that are too many to be gone through again and again.
func TestStepsOfCrowded(t *testing.T) {
	p, s := crowded(20)
	n, e := sol.Count(p, s)
	if n != 20*15*1728 || e != api.OK {
		t.Error(n, e)
	}
	for i, want := range map[int]string{0: "0.0 [0 0 0]", 11: "0.0 [0 0 11]", 12: "0.0 [0 1 0]", 1727: "0.0 [11 11 11]", 1728: "0.1 [0 0 0]", 15*1728 - 1: "0.14 [11 11 11]", 15 * 1728: "1.0 [0 0 0]", 20*15*1728 - 1: "19.14 [11 11 11]", 7*15*1728 + 3*1728 + 5*144 + 6*12 + 7: "7.3 [5 6 7]"} {
		if x, e := sol.Nth(p, s, i); showStep(x) != want || e != api.OK {
			t.Error(i, showStep(x), e)
		}
	}
}
