package sol_test

import (
	"math/rand"
	"slices"
	"testing"

	"cabotage/api"
	"cabotage/internal/sample"
	"cabotage/sol"
)

func two(op api.TermSign, e, f api.ScopeExp) api.ScopeExp {
	return api.ScopeExp{Op: op, Kids: []api.ScopeExp{e, f}}
}

// P6.2: values of expressions, at the ends of integers and where something is none.
func TestValue(t *testing.T) {
	const most = api.TermMost
	env := []api.SolVal{integer(7), channel(3), free(7), place(7), integer(-most)}
	for _, x := range []struct {
		e    api.ScopeExp
		want api.SolVal
	}{
		{num(0), integer(0)}, {num(most), integer(most)}, {num(-most), integer(-most)},
		{name(0), integer(7)}, {name(1), channel(3)}, {name(2), free(7)}, {name(3), place(7)}, {name(4), integer(-most)},
		{two(api.TermAdd, num(2), num(3)), integer(5)}, {two(api.TermAdd, num(most), num(0)), integer(most)}, {two(api.TermAdd, num(most), num(1)), integer(most)}, {two(api.TermAdd, num(most), num(most)), integer(most)}, {two(api.TermAdd, num(-most), num(-most)), integer(-most)}, {two(api.TermAdd, num(most), num(-most)), integer(0)}, {two(api.TermAdd, num(most-1), num(1)), integer(most)},
		{two(api.TermSub, num(2), num(3)), integer(-1)}, {two(api.TermSub, num(-most), num(1)), integer(-most)}, {two(api.TermSub, num(most), num(-most)), integer(most)}, {two(api.TermSub, num(1-most), num(1)), integer(-most)},
		{two(api.TermMul, num(-2), num(3)), integer(-6)}, {two(api.TermMul, num(most), num(most)), integer(most)}, {two(api.TermMul, num(-most), num(most)), integer(-most)}, {two(api.TermMul, num(-most), num(-most)), integer(most)}, {two(api.TermMul, num(31623), num(31623)), integer(most)}, {two(api.TermMul, num(31622), num(31622)), integer(999950884)},
		{two(api.TermLess, num(2), num(3)), integer(1)}, {two(api.TermLess, num(3), num(3)), integer(0)}, {two(api.TermLess, num(3), num(2)), integer(0)}, {two(api.TermLess, num(-3), num(2)), integer(1)},
		{two(api.TermSame, num(3), num(3)), integer(1)}, {two(api.TermSame, num(2), num(3)), integer(0)},
		// What is no integer counts as 0, whatever its number is.
		{two(api.TermAdd, name(0), name(1)), integer(7)}, {two(api.TermSub, name(2), name(0)), integer(-7)}, {two(api.TermMul, name(3), name(0)), integer(0)}, {two(api.TermAdd, name(1), name(2)), integer(0)},
		{two(api.TermLess, name(1), num(1)), integer(1)}, {two(api.TermLess, name(4), name(3)), integer(1)}, {two(api.TermLess, name(1), name(2)), integer(0)},
		{two(api.TermSame, name(2), name(3)), integer(1)}, {two(api.TermSame, name(1), name(1)), integer(1)}, {two(api.TermSame, name(0), name(2)), integer(0)}, {two(api.TermSame, num(0), name(3)), integer(1)},
		// The nearest integer is taken each time.
		{two(api.TermSub, two(api.TermAdd, num(most), num(5)), num(5)), integer(most - 5)}, {two(api.TermAdd, num(5), two(api.TermSub, num(-most), num(9))), integer(5 - most)}, {two(api.TermSub, num(1), two(api.TermSub, num(2), num(3))), integer(2)},
	} {
		if v, e := sol.Value(x.e, env); v != x.want || e != api.OK {
			t.Error(x.e, v, e)
		}
	}
	if v, e := sol.Value(num(1), nil); v != integer(1) || e != api.OK {
		t.Error(v, e)
	}
	// Values of other solutions are values, as far as that can be seen without one.
	for _, v := range []api.SolVal{free(-1), channel(1 << 40), place(-1 << 62), integer(most), integer(-most)} {
		if got, e := sol.Value(name(1), []api.SolVal{integer(0), v}); got != v || e != api.OK {
			t.Error(v, got, e)
		}
	}
}

// deep is an expression of so much depth.
func deep(levels int) api.ScopeExp {
	e := num(1)
	for range levels - 1 {
		e = two(api.TermAdd, num(1), e)
	}
	return e
}

// wide is an expression of so many nodes, if that is odd.
func wide(nodes int) api.ScopeExp {
	if nodes < 3 {
		return num(1)
	}
	left := (nodes - 1) / 2
	left -= 1 - left%2
	return two(api.TermAdd, wide(left), wide(nodes-1-left))
}

// P6.2: what is refused: an expression that is not formed, or an environment with anything else than values.
func TestValueRefused(t *testing.T) {
	env := []api.SolVal{integer(7), place(1)}
	for i, e := range []api.ScopeExp{
		{}, {Op: -1}, {Op: api.TermSame + 1, Kids: []api.ScopeExp{num(1), num(1)}},
		num(api.TermMost + 1), num(-api.TermMost - 1), num(-1 << 63), name(2), name(-1), name(1 << 62),
		{Op: api.TermInt, Kids: []api.ScopeExp{num(1)}}, {Op: api.TermName, Kids: []api.ScopeExp{num(1), num(1)}},
		{Op: api.TermAdd}, {Op: api.TermAdd, Kids: []api.ScopeExp{num(1)}}, {Op: api.TermLess, Kids: []api.ScopeExp{num(1), num(1), num(1)}}, {Op: api.TermSub, N: 1, Kids: []api.ScopeExp{num(1), num(1)}},
		sum(num(1), name(2)), sum(name(-1), num(1)), sum(num(1), api.ScopeExp{}), two(api.TermMul, num(1), two(api.TermLess, num(1), num(api.TermMost+1))),
		deep(13), wide(61), sample.Circle(), {Op: api.TermAdd, Kids: make([]api.ScopeExp, 1<<20)},
	} {
		if v, f := sol.Value(e, env); v != (api.SolVal{}) || f != api.ErrArg {
			t.Error(i, v, f)
		}
	}
	for i, e := range []api.ScopeExp{deep(12), wide(59)} {
		if v, f := sol.Value(e, env); v != integer([]int{12, 30}[i]) || f != api.OK {
			t.Error(i, v, f)
		}
	}
	for _, v := range []api.SolVal{{}, {N: 1}, {Kind: -1}, {Kind: 5}, {Kind: 1 << 62, N: 1}, integer(api.TermMost + 1), integer(-api.TermMost - 1), integer(-1 << 63)} {
		for i := range 3 {
			if got, e := sol.Value(name(0), slices.Insert(slices.Clone(env), i, v)); got != (api.SolVal{}) || e != api.ErrArg {
				t.Error(v, i, got, e)
			}
		}
	}
}

// anyExp returns an expression, with names of an environment.
func anyExp(r *rand.Rand, size, level int) api.ScopeExp {
	k := r.Intn(8)
	if level == 0 {
		k = r.Intn(3)
	}
	switch {
	case k < 1:
		return num([]int{0, 1, -1, 31623, api.TermMost, -api.TermMost, r.Intn(100)}[r.Intn(7)])
	case k < 3:
		return name(r.Intn(size))
	}
	return two(api.TermAdd+api.TermSign(r.Intn(5)), anyExp(r, size, level-1), anyExp(r, size, level-1))
}

// P6.2: expressions against what is reckoned with integers of any size.
func TestValueOfMade(t *testing.T) {
	p := program("def x() = 0 and place p { in out(q) } in 0")
	s := firstOf(t, p)
	w := worldOf(p, s)
	kinds := map[api.SolKind]int{}
	for seed := range int64(5000) {
		r := rand.New(rand.NewSource(seed))
		env := make([]api.SolVal, 1+r.Intn(5))
		for i := range env {
			env[i] = sample.Value(r.Intn, p, s)
		}
		x := anyExp(r, len(env), 4)
		v, e := sol.Value(x, env)
		if want := w.write([]any{meaning(x, w.read(env))})[0]; e != api.OK || v != want {
			t.Fatal(x, showVals(env), v, want, e)
		}
		kinds[v.Kind]++
		if v.Kind == api.SolInt && v.N > -api.TermMost && v.N < api.TermMost && v.N < -1 || v.N > 1 {
			kinds[0]++
		}
	}
	if len(kinds) < 5 || kinds[0] < 200 {
		t.Error("too few:", kinds)
	}
}
