package infer_test

import (
	"slices"
	"testing"

	"cabotage/api"
	"cabotage/infer"
)

// P4.3
func TestExplain(t *testing.T) {
	for _, x := range []struct {
		s    string
		want []int
	}{
		{procA, []int{2, 3}}, {procC + " | cell(out)", []int{0, 2, 3, 5, 6}},
		// those that are behind are kept
		{"y(1) | go y; y(2)", []int{1, 2}}, {"go x; 0 | x() | watch x; x(1)", []int{2, 3}}, {"x() | x(1) | x() | x(1)", []int{2, 3}}, {"go x; if x then x() else 0", []int{1, 2}},
		{"x(x)", []int{0}}, {"x(y) | y(z) | z(x) | y(y)", []int{3}}, {"y(y) | x(y) | y(z) | z(x)", []int{1, 2, 3}}, {"def x(a) = a(a) in 0", []int{1}}, {"def x(a) = x(x) in 0", []int{1}}, {"def x(a) = 0 in go x; 0", []int{0, 1}},
		{"def x(a) = 0 in x(1, 2) | x(1)", []int{0, 1}}, {"def x(a) = go a; 0 in x(1) | x(2)", []int{0, 1, 3}}, {"def x(a) = go a; 0 in x(2)", []int{0, 1, 2}},
		// without the Joins' demands nothing of this would be wrong; without the one that is between them neither
		{"def x(a) & y(b) = if a == b then 0 else 0 in x(1) | y(p) | go p; 0", []int{0, 1, 3, 4, 5, 6}}, {"def x(a) & y(b) = if a == b then 0 else 0 in x(1) | x(p) | go p; 0", []int{0, 1, 3, 4, 5, 6}}, {"def x(a) = f(a) in x(1) | x(p) | go p; 0", []int{0, 1, 2, 3, 4}},
		{"if 1 == p then go p; 0 else x(p + 1) | go p; 0", []int{4, 6}}, {"def place p { in p() } in if p then 0 else 0", []int{1}},
	} {
		if l, e := infer.Explain(process(x.s)); e != api.OK || !slices.Equal(l, x.want) {
			t.Error(x.s, l, e)
		}
	}
	for _, s := range []string{procB, procC, procD, "0", "stop", large} {
		if l, e := infer.Explain(process(s)); e != api.ErrNone || len(l) > 0 {
			t.Error(s, l, e)
		}
	}
	for i, u := range unformed() {
		if l, e := infer.Explain(u); e != api.ErrArg || len(l) > 0 {
			t.Error(i, l, e)
		}
	}
}

// without returns a list without what stands at a place.
func without(l []int, at int) []int { return slices.Delete(slices.Clone(l), at, at+1) }

// P4.3: what is left of all demands, each left out if it can be; what is left cannot be met together, but without any of it.
func TestExplainMade(t *testing.T) {
	count := 0
	processes(t, 500, func(seed int64, u api.Term) {
		can := func(l []int) bool {
			return !typing(u, nil, func(n int) bool { return slices.Contains(l, n) }).wrong
		}
		l, e := infer.Explain(u)
		want := list(len(typing(u, nil, always).demands))
		if can(want) {
			if e != api.ErrNone || len(l) > 0 {
				t.Error(seed, source(u), l, e)
			}
			return
		}
		count++
		for at := 0; at < len(want); {
			if less := without(want, at); can(less) {
				at++
			} else {
				want = less
			}
		}
		if e != api.OK || !slices.Equal(l, want) {
			t.Error(seed, source(u), l, e, "not", want)
		}
		if is, e := infer.Types(u, l); is || e != api.OK {
			t.Error(seed, source(u), l, is, e)
		}
		for at := range l {
			if is, e := infer.Types(u, without(l, at)); !is || e != api.OK {
				t.Error(seed, source(u), l, at, is, e)
			}
		}
	})
	if count < 100 {
		t.Error("only", count)
	}
}
