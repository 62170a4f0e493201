package sol_test

import (
	"math/rand"
	"slices"
	"testing"

	"cabotage/api"
	"cabotage/sol"
)

// P6.5: runs by some numbers.
func TestRun(t *testing.T) {
	const first = "-1 0; 0@0[f0 c0 c1 p1]; 0.0@0(1)(2); 0.1@0(); 2@1[f0 c0 c1 p1]; 9@0[f0 c0 c1 p1]"
	for _, x := range []struct {
		source        string
		picks         []int
		shown, events string
	}{
		{example, nil, first, ""},
		{example, []int{}, first, ""},
		{example, []int{0, 0}, "-1 0!; 0@0[f0 c0 c1 p1]; 0.0@0(1)(2)(3); 0.1@0()", "died 1, told 0 1"},
		// The example of the document.
		{"def x(a) = out(a) and place p { y() = go q; x(1) in y() } and place q { in 0 } in 0", []int{0, 0, 0, 0}, "-1 2 0; 0@0[f0 c0 c1 p1 p2]; 0.0@0; 0.1@1", "took 1 0.1(), went 1 2, took 0 0.0(1), said 0 0(1)"},
		// A number counts modulo how many steps there are; one below 0 as 0.
		{example, []int{3, 6}, "-1 0!; 0@0[f0 c0 c1 p1]; 0.0@0(1)(2)(3); 0.1@0()", "died 1, told 0 1"},
		{example, []int{-1, -1 << 63}, "-1 0!; 0@0[f0 c0 c1 p1]; 0.0@0(1)(2)(3); 0.1@0()", "died 1, told 0 1"},
		{example, []int{5}, "-1 0; 0@0[f0 c0 c1 p1]; 0.0@0(1); 0.1@0; 2@1[f0 c0 c1 p1]; 9@0[f0 c0 c1 p1]", "took 0 0.0(2), said 0 0(2)"},
		{example, []int{1 << 62}, "-1 0; 0@0[f0 c0 c1 p1]; 0.0@0(2); 0.1@0; 2@1[f0 c0 c1 p1]; 9@0[f0 c0 c1 p1]", "took 0 0.0(1), said 0 0(1)"}, // 2^62 = 1 modulo 3
		// It ends where there is no step.
		{example, []int{2, 0, 0, 0, 0, 0}, "-1 0!; 0@0[f0 c0 c1 p1]; 0.0@0(1)(3); 0.1@0", "took 0 0.0(2), said 0 0(2), died 1, told 0 1"},
		{"0", []int{0, 7}, "-1", ""},
		{"def x(a) = if a < 3 then x(a + 1) else out(a) in x(0)", []int{0, 0, 0, 0, 0}, "-1; 0@0[f0 c0]; 0.0@0", "took 0 0.0(0), took 0 0.0(1), took 0 0.0(2), took 0 0.0(3), said 0 0(3)"},
	} {
		p := program(x.source)
		u, l, e := sol.Run(p, firstOf(t, p), x.picks)
		if e != api.OK || show(u) != x.shown || showEvents(l) != x.events {
			t.Error(x.source, x.picks, show(u), showEvents(l), e)
		}
	}
}

// P6.5: as many numbers as can be, and one more, whether or not there are so many steps.
func TestRunLong(t *testing.T) {
	for source, many := range map[string]int{"def x() = x() in x()": api.SolTurns, "0": 0, "def x() = x() | x() in 0": 0} {
		p := program(source)
		s := firstOf(t, p)
		if u, l, e := sol.Run(p, s, make([]int, api.SolTurns)); e != api.OK || show(u) != show(s) || len(l) != many {
			t.Error(source, show(u), showEvents(l), e)
		}
		for _, picks := range [][]int{make([]int, api.SolTurns+1), make([]int, 1<<20)} {
			if u, l, e := sol.Run(p, s, picks); e != api.ErrLong || show(u)+showEvents(l) != "" {
				t.Error(source, show(u), showEvents(l), e)
			}
		}
	}
}

// P6.5: what is too much, and of what is before nothing is returned.
func TestRunTooMuch(t *testing.T) {
	p := program("def x() = x() | x() | out() in x()")
	s := firstOf(t, p)
	if u, l, e := sol.Run(p, s, make([]int, 11)); e != api.OK || len(u.Chans[0].Queue) != 12 || len(l) != 22 {
		t.Error(show(u), showEvents(l), e)
	}
	if u, l, e := sol.Run(p, s, make([]int, 12)); e != api.ErrLong || show(u)+showEvents(l) != "" {
		t.Error(show(u), showEvents(l), e)
	}
}

// P6.5: a run is its steps, one by one; and a run by some numbers, and then by others, is the run by all of them.
func TestRunOfMade(t *testing.T) {
	long, much := 0, 0
	solutions(t, 200, func(seed int64, r *rand.Rand, p api.ScopeProg, s api.Sol) {
		picks := make([]int, r.Intn(12))
		for i := range picks {
			picks[i] = []int{-1, 0, 0, r.Intn(5), r.Intn(50), r.Int(), -r.Int()}[r.Intn(7)]
		}
		u, l, e := sol.Run(p, s, picks)
		w, seen := worldOf(p, s), []api.SolEvent(nil)
		for _, n := range picks {
			if steps := w.steps(); len(steps) > 0 && !w.tooMuch() {
				w.step(steps[max(n, 0)%len(steps)])
				seen = append(seen, w.seen...)
			}
		}
		if e == api.ErrLong && w.tooMuch() && show(u)+showEvents(l) == "" {
			much++
			return
		}
		if e != api.OK || w.tooMuch() || show(u) != show(w.written()) || showEvents(l) != showEvents(seen) {
			t.Fatal(seed, p, show(s), picks, show(u), showEvents(l), e)
		}
		for k := range len(picks) + 1 {
			v, first, e := sol.Run(p, s, picks[:k])
			v, second, f := sol.Run(p, v, picks[k:])
			if e != api.OK || f != api.OK || show(v) != show(u) || showEvents(slices.Concat(first, second)) != showEvents(l) {
				t.Fatal(seed, p, show(s), picks, k, show(v), e, f)
			}
		}
		long += number(len(l) > 6)
	})
	if long < 200 || much < 5 {
		t.Error("too few:", long, much)
	}
}

// inside is a solution of which nothing is right but the Ins of its places.
func inside(ins ...int) api.Sol {
	s := api.Sol{Groups: make([]api.SolGroup, 50), Chans: []api.SolQ{{Group: 7, At: -3}}, Waits: []api.SolWait{{At: 99}}}
	for i, in := range ins {
		s.Spots = append(s.Spots, api.SolSpot{In: in, Dead: i%3 == 0})
	}
	return s
}

// P6.5: places within a place.
func TestWithin(t *testing.T) {
	for _, x := range []struct {
		ins   []int
		place int
		want  []int
	}{
		{[]int{-1}, 0, []int{0}},
		{[]int{-1, 0}, 0, []int{0, 1}}, {[]int{-1, 0}, 1, []int{1}},
		{[]int{-1, 3, 0, 2, 1, 0}, 0, []int{0, 1, 2, 3, 4, 5}}, {[]int{-1, 3, 0, 2, 1, 0}, 1, []int{1, 4}}, {[]int{-1, 3, 0, 2, 1, 0}, 2, []int{1, 2, 3, 4}}, {[]int{-1, 3, 0, 2, 1, 0}, 3, []int{1, 3, 4}}, {[]int{-1, 3, 0, 2, 1, 0}, 5, []int{5}},
	} {
		if l, e := sol.Within(inside(x.ins...), x.place); e != api.OK || !slices.Equal(l, x.want) {
			t.Error(x.ins, x.place, l, e)
		}
	}
	// How many places there are is nothing of their Ins: they can be in each other as deep as anything can be.
	chain := make([]int, 1<<16)
	for i := range chain {
		chain[i] = i - 1
	}
	if l, e := sol.Within(inside(chain...), 1); e != api.OK || len(l) != 1<<16-1 || l[0] != 1 || l[1<<16-2] != 1<<16-1 {
		t.Error(len(l), e)
	}
}

// P6.5: what is refused.
func TestWithinRefused(t *testing.T) {
	for _, x := range []struct {
		ins   []int
		place int
	}{
		{nil, 0}, {[]int{-1}, 1}, {[]int{-1}, -1}, {[]int{-1, 0}, 2}, {[]int{-1, 0}, 1 << 62}, {[]int{-1, 0}, -1 << 63},
		{[]int{0}, 0}, {[]int{-2}, 0}, {[]int{1, 0}, 0}, {[]int{1, -1}, 1}, {[]int{-1, -1}, 0}, {[]int{-1, 1}, 0}, {[]int{-1, 2}, 0}, {[]int{-1, 2, 1}, 0}, {[]int{-1, 0, 3, 4, 2}, 1}, {[]int{-1, 0, 2}, 1}, {[]int{-1, 1 << 62}, 0}, {[]int{-1, -1 << 63}, 0},
	} {
		if l, e := sol.Within(inside(x.ins...), x.place); e != api.ErrArg || len(l) > 0 {
			t.Error(x.ins, x.place, l, e)
		}
	}
}

// P6.5: any Ins.
func TestWithinOfMade(t *testing.T) {
	yes, no := 0, 0
	for seed := range int64(4000) {
		r := rand.New(rand.NewSource(seed))
		ins := []int{-1}
		for i := 1; i < r.Intn(10); i++ {
			ins = append(ins, r.Intn(i+r.Intn(2)))
		}
		if len(ins) > 2 && r.Intn(3) == 0 {
			ins[1+r.Intn(len(ins)-1)] = r.Intn(len(ins))
		}
		s := inside(ins...)
		for b := range ins {
			l, e := sol.Within(s, b)
			if !formedIns(s) {
				no++
				if e != api.ErrArg || len(l) > 0 {
					t.Fatal(ins, b, l, e)
				}
				continue
			}
			yes++
			var want []int
			for c := range ins {
				at := c
				for at > 0 && at != b {
					at = ins[at]
				}
				if at == b {
					want = append(want, c)
				}
			}
			if e != api.OK || !slices.Equal(l, want) {
				t.Fatal(ins, b, l, e)
			}
		}
	}
	if yes < 3000 || no < 3000 {
		t.Error("too few:", yes, no)
	}
}
