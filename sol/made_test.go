package sol_test

import (
	"math/rand"
	"slices"
	"testing"

	"cabotage/api"
	"cabotage/internal/sample"
	"cabotage/scope"
	"cabotage/sol"
)

// programs calls f with programs by chance.
func programs(t *testing.T, many int, f func(seed int64, r *rand.Rand, p api.ScopeProg)) {
	t.Helper()
	for seed := int64(0); seed < int64(many) && !t.Failed(); seed++ {
		r := rand.New(rand.NewSource(seed))
		source := func() string { return sample.Source(r.Intn, sample.Lively) }
		if seed%3 == 0 {
			source = func() string { return sample.Mortal(r.Intn) }
		}
		f(seed, r, sample.Made(r.Intn, source))
	}
}

// solutions calls f with solutions of programs: those of a run, and others.
func solutions(t *testing.T, many int, f func(seed int64, r *rand.Rand, p api.ScopeProg, s api.Sol)) {
	t.Helper()
	programs(t, many, func(seed int64, r *rand.Rand, p api.ScopeProg) {
		if s, _, e := sol.First(p); e == api.OK {
			f(seed, r, p, s)
			for range 6 {
				u, _, e := sol.Run(p, s, []int{r.Intn(50), r.Intn(50), r.Intn(50)})
				if e != api.OK {
					break
				}
				s = u
				f(seed, r, p, s)
			}
		}
		for range 4 {
			f(seed, r, p, sample.Solution(r.Intn, p))
		}
	})
}

// What is made is formed, and there is something of all kinds.
func TestMade(t *testing.T) {
	kinds, spots, deaths, most := map[api.TermOp]int{}, 0, 0, 0
	programs(t, 300, func(seed int64, r *rand.Rand, p api.ScopeProg) {
		if e := scope.Check(p); e != api.OK {
			t.Error(seed, p, e)
		}
		for _, n := range p.Nodes {
			kinds[n.Op]++
		}
		for _, d := range p.Defs {
			for _, x := range d.Spots {
				spots += number(x.In > 0)
			}
		}
	})
	runs := 0
	solutions(t, 300, func(seed int64, r *rand.Rand, p api.ScopeProg, s api.Sol) {
		if !formed(p, s) {
			t.Error(seed, show(s))
		}
		runs++
		deaths += number(slices.ContainsFunc(s.Spots, func(x api.SolSpot) bool { return x.Dead }))
		most = max(most, len(s.Groups))
	})
	for op := api.TermNil; op <= api.TermWatch; op++ {
		if kinds[op] < 60 {
			t.Error("too few", op, kinds)
		}
	}
	if spots < 100 || runs < 2500 || deaths < 700 || most < 10 {
		t.Error("too few:", spots, runs, deaths, most)
	}
}
