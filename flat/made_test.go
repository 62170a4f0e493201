package flat_test

import (
	"math/rand"
	"slices"
	"testing"

	"cabotage/api"
	"cabotage/flat"
	"cabotage/internal/sample"
	"cabotage/scope"
	"cabotage/sol"
)

// loosened are takings of a program: the least ones, and some more.
func loosened(r *rand.Rand, t tree) takings {
	takers := []int{main}
	for at, n := range t.Nodes {
		switch n.Op {
		case api.TermDef, api.TermGo, api.TermStop, api.TermWatch:
			takers = append(takers, at)
		}
	}
	x := t.least()
	for range r.Intn(8) {
		at := takers[r.Intn(len(takers))]
		switch {
		case at == main && len(t.Free) > 0:
			x.add(main, r.Intn(len(t.Free)))
		case at != main && t.size(at) > 0:
			t.takes(x, at, r.Intn(t.size(at)))
		}
	}
	return x
}

// flats calls f with programs by chance, and with flat programs that are these when they are opened: one in three takes the least.
func flats(t *testing.T, many int, f func(seed int64, r *rand.Rand, p api.ScopeProg, x takings, q api.FlatProg)) {
	t.Helper()
	programs(t, many, func(seed int64, r *rand.Rand, p api.ScopeProg) {
		u := treeOf(p)
		x := u.least()
		if r.Intn(3) > 0 {
			x = loosened(r, u)
		}
		f(seed, r, p, x, u.laid(x))
	})
}

// solutions calls f with solutions of programs, those of a run and others, and with flat programs that are these when they are opened.
func solutions(t *testing.T, many int, f func(seed int64, r *rand.Rand, p api.ScopeProg, q api.FlatProg, s api.Sol)) {
	t.Helper()
	flats(t, many, func(seed int64, r *rand.Rand, p api.ScopeProg, _ takings, q api.FlatProg) {
		if s, _, e := sol.First(p); e == api.OK {
			f(seed, r, p, q, s)
			for range 6 {
				u, _, e := sol.Run(p, s, []int{r.Intn(50), r.Intn(50), r.Intn(50)})
				if e != api.OK {
					break
				}
				s = u
				f(seed, r, p, q, s)
			}
		}
		for range 4 {
			f(seed, r, p, q, sample.Solution(r.Intn, p))
		}
	})
}

// retaken changes what is taken.
func retaken(r *rand.Rand, take []int) []int {
	switch r.Intn(4) {
	case 0:
		sample.One(r.Intn, take, func(n *int) { sample.Near(r.Intn, n) })
		return take
	case 1:
		return sample.Altered(r.Intn, take)
	case 2:
		take = append(take, r.Intn(8))
	default:
		take = slices.DeleteFunc(take, func(int) bool { return r.Intn(3) == 0 })
	}
	slices.Sort(take)
	return slices.Compact(take)
}

// disturb changes something of a flat program.
func disturb(r *rand.Rand, f *api.FlatProg) {
	switch r.Intn(12) {
	case 0:
		f.Take = retaken(r, f.Take)
	case 1:
		switch r.Intn(4) {
		case 0:
			sample.Near(r.Intn, &f.Main)
		case 1:
			f.Free = sample.Altered(r.Intn, f.Free)
		case 2:
			f.Nodes = sample.Altered(r.Intn, f.Nodes)
		case 3:
			f.Defs = sample.Altered(r.Intn, f.Defs)
		}
	case 2:
		sample.One(r.Intn, f.Defs, func(d *api.ScopeDef) { disturbDef(r, d) })
	default:
		sample.One(r.Intn, f.Nodes, func(n *api.FlatNode) { disturbNode(r, n) })
	}
}

func disturbNode(r *rand.Rand, n *api.FlatNode) {
	switch r.Intn(8) {
	case 0:
		n.Op = api.TermOp(r.Intn(10))
	case 1:
		n.Kids = sample.Altered(r.Intn, n.Kids)
	case 2:
		n.Args = sample.Altered(r.Intn, n.Args)
	case 3:
		sample.One(r.Intn, n.Args, func(e *api.ScopeExp) { disturbExp(r, e) })
	case 4:
		sample.Near(r.Intn, &n.N)
	default:
		n.Take = retaken(r, n.Take)
	}
}

func disturbExp(r *rand.Rand, e *api.ScopeExp) {
	switch k := r.Intn(8); {
	case k == 0:
		e.Op = api.TermSign(r.Intn(9))
	case k == 1:
		e.Kids = sample.Altered(r.Intn, e.Kids)
	case k < 5 && len(e.Kids) > 0:
		sample.One(r.Intn, e.Kids, func(e *api.ScopeExp) { disturbExp(r, e) })
	default:
		sample.Near(r.Intn, &e.N)
	}
}

func disturbDef(r *rand.Rand, d *api.ScopeDef) {
	near := func(n *int) { sample.Near(r.Intn, n) }
	switch r.Intn(6) {
	case 0:
		sample.One(r.Intn, d.Chans, func(c *api.ScopeChan) { near([]*int{&c.At, &c.Many}[r.Intn(2)]) })
	case 1:
		sample.One(r.Intn, d.Spots, func(s *api.ScopeSpot) { near([]*int{&s.In, &s.Node}[r.Intn(2)]) })
	case 2:
		sample.One(r.Intn, d.Rules, func(x *api.ScopeRule) { near([]*int{&x.At, &x.Node}[r.Intn(2)]) })
	case 3:
		sample.One(r.Intn, d.Rules, func(x *api.ScopeRule) { x.Joins = sample.Altered(r.Intn, x.Joins) })
	case 4:
		d.Chans = sample.Altered(r.Intn, d.Chans)
	case 5:
		d.Rules = sample.Altered(r.Intn, d.Rules)
	}
}

// What is made is formed, and there is something of all kinds.
func TestMade(t *testing.T) {
	kinds, loose, deep := map[api.TermOp]int{}, 0, 0
	flats(t, 400, func(seed int64, r *rand.Rand, p api.ScopeProg, x takings, f api.FlatProg) {
		u := treeOf(p)
		if scope.Check(p) != api.OK || !formed(f) || !x.has(u.least()) {
			t.Error(seed, p, f)
		}
		if y, _ := read(f); written(y.takings()) != written(x) || written(y.opened()) != written(p) {
			t.Error(seed, x, y.takings(), p, y.opened())
		}
		loose += x.count() - u.least().count()
		for at, n := range f.Nodes {
			kinds[n.Op] += number(len(n.Take) > 0)
			deep += number(len(n.Take) > 0 && len(n.Take) < len(u.list(at, x.of)) && len(u.list(at, x.of)) < u.size(at))
		}
	})
	for _, op := range []api.TermOp{api.TermDef, api.TermGo, api.TermStop, api.TermWatch} {
		if kinds[op] < 80 {
			t.Error("too few", op, kinds)
		}
	}
	if loose < 500 || deep < 300 {
		t.Error("too few:", loose, deep)
	}
	runs, deaths, most := 0, 0, 0
	solutions(t, 100, func(seed int64, r *rand.Rand, p api.ScopeProg, f api.FlatProg, s api.Sol) {
		if sol.Check(p, s) != api.OK {
			t.Error(seed, show(s))
		}
		y, _ := read(f)
		if u := y.flattened(s); !y.formedSol(u) || flat.Held(u) > flat.Held(s) {
			t.Error(seed, f, show(s), show(u))
		}
		runs++
		deaths += number(slices.ContainsFunc(s.Spots, func(x api.SolSpot) bool { return x.Dead }))
		most = max(most, len(s.Groups))
	})
	if runs < 800 || deaths < 200 || most < 8 {
		t.Error("too few:", runs, deaths, most)
	}
}
