package infer_test

import (
	"math/rand"
	"slices"
	"testing"

	"cabotage/api"
	"cabotage/infer"
)

// P4.1
func TestDemands(t *testing.T) {
	for _, x := range []struct{ s, want string }{
		{procA, "send 1, operand 2.0, operand 2.1, go 5"},
		{procB, "join 1.0, send 2, send 5, send 8"},
		{procC, "join 1.0, join 1.1, send 3, send 5, send 8, send 10"},
		{procD, "join 1.0, join 1.1, send 4, send 7, send 9"},
		{"0", ""}, {"stop", ""}, {"x()", "send 0"}, {"0 | stop", ""},
		// a part before its parts: Args, Defs, Kids
		{"if a == 1 then x(b) else watch p; 0", "test 0, alike 1, send 4, watch 6"},
		{"x(1 + 2, 3 - 4 * 5, 6 < 7)", "send 0, operand 1.0, operand 1.1, operand 4.0, operand 4.1, operand 6.0, operand 6.1, operand 9.0, operand 9.1"},
		{"x((a == b) == (c < d))", "send 0, alike 1, alike 2, operand 5.0, operand 5.1"},
		{"go p; watch q; go r; 0", "go 0, watch 1, go 2"},
		{"def x() = go p; 0 and place p { y(a) & z() & w(b) = watch q; 0 in x() } and u() = 0 in y(1)", "join 1.0, go 2, join 5.0, join 5.1, join 5.2, watch 6, send 8, join 9.0, send 11"},
		{"def place p { place q { x() = 0 in go p; 0 } in x() } in def y(a) = x() in y(1)", "join 3.0, go 5, send 7, join 9.0, send 10, send 11"},
	} {
		if l, e := infer.Demands(process(x.s)); e != api.OK || showDemands(l) != x.want {
			t.Errorf("%s: %s %d, not %s", x.s, showDemands(l), e, x.want)
		}
	}
	for i, u := range unformed() {
		if l, e := infer.Demands(u); e != api.ErrArg || len(l) > 0 {
			t.Error(i, l, e)
		}
	}
}

// P4.1
func TestTypes(t *testing.T) {
	for _, x := range []struct {
		s    string
		some []int
		want bool
	}{
		{procA, list(3), true}, {procA, []int{2, 3}, false}, {procA, []int{0, 1, 3}, true}, {procA, []int{0, 2}, true}, {procA, list(4), false}, {procA, nil, true}, {procA, []int{}, true},
		{procB, list(4), true}, {procC, list(6), true}, {procD, list(5), true}, {"0", nil, true},
		// no type is within itself
		{"x(x)", list(1), false}, {"x(x)", nil, true}, {"x(y) | y(x)", list(2), false}, {"x(y) | y(x)", list(1), true}, {"x(y) | z(y) | y(z)", []int{0, 1}, true}, {"x(y) | z(y) | y(z)", []int{0, 2}, true}, {"x(y) | z(y) | y(z)", []int{1, 2}, false},
		{"if x == y then x(y) else 0", []int{0, 1}, true}, {"if x == y then x(y) else 0", []int{1, 2}, false},
		// how many values: 0, 1, ..
		{"x() | x(1)", list(2), false}, {"x(1) | x(1, 2)", list(2), false}, {"x(1, 2) | x(a, b)", list(2), true}, {"x(1) | go x; 0", list(2), false}, {"x(1) | if x then 0 else 0", list(2), false}, {"x(1) | watch x; 0", list(2), false},
		// all that reckons is an integer
		{"x(1 + 2) | x(3 < 4) | x(a == b) | x(5) | x(6 * 7) | x(8 - 9)", list(15), true}, {"x(a == b) | x(p) | go p; 0", list(4), false}, {"x(a == b) | x(p) | go p; 0", []int{0, 2, 3}, false}, {"x(a == b) | x(p) | go p; 0", []int{1, 2, 3}, true},
		{"go p; watch p; x(p)", list(3), true}, {"go p; if p then 0 else 0", list(2), false}, {"watch p; y(p + 1)", []int{0, 2}, false}, {"watch p; y(p * 1)", []int{0, 1, 3}, true},
		// a TermSame has two Kids of one type, and is an integer itself
		{"y(a == p) | go p; 0 | b(a)", list(4), true}, {"if a == p then go p; a() else 0", []int{1, 2, 3}, false}, {"if a == p then go p; a() else 0", []int{0, 2, 3}, true},
		// a channel whose Joins demand nothing can be anything: in the Kid each time something else, in the Defs one thing
		{"def x(a) = 0 in go x; if x then 0 else x(1, 2)", []int{1, 2, 3}, true}, {"def x(a) = 0 in go x; if x then 0 else x(1, 2)", []int{0, 1}, false},
		{"def x(a) = go x; if x then 0 else x(1, 2) in 0", []int{1, 2}, false}, {"def x(a) = go x; if x then 0 else x(1, 2) in 0", []int{1}, true}, {"def x(a) = go x; if x then 0 else x(1, 2) in 0", []int{0, 3}, false},
		// what a message brings is of no type then
		{"def x(a) = go a; 0 in x(1)", []int{0, 1, 2}, false}, {"def x(a) = go a; 0 in x(1)", []int{1, 2}, true}, {"def x(a) = go a; 0 in x(1)", []int{0, 2}, true},
		// a place is one even if nothing is demanded
		{"def place p { in 0 } in p()", list(1), false}, {"def place p { in 0 } in p()", nil, true}, {"def place p { in 0 } in if p then 0 else 0", list(1), false},
	} {
		u := process(x.s)
		if is, e := infer.Types(u, x.some); e != api.OK || is != x.want {
			t.Error(x.s, x.some, is, e)
		}
	}
}

// P4.1: numbers that are none.
func TestTypesWrong(t *testing.T) {
	for _, l := range [][]int{{-1}, {4}, {0, 0}, {1, 0}, {0, 1, 2, 3, 4}, {0, 2, 2}, {3, 1000000}, {0, 1, -1}, list(100000)} {
		if is, e := infer.Types(process(procA), l); is || e != api.ErrArg {
			t.Error(l, is, e)
		}
	}
	if is, e := infer.Types(process("0"), list(1)); is || e != api.ErrArg {
		t.Error(is, e)
	}
	for i, u := range unformed() {
		for _, l := range [][]int{nil, {0}, {-1}} {
			if is, e := infer.Types(u, l); is || e != api.ErrArg {
				t.Error(i, is, e)
			}
		}
	}
}

// P4.1: of demands that can be met together any can.
func TestTypesMade(t *testing.T) {
	yes, no := 0, 0
	processes(t, 900, func(seed int64, u api.Term) {
		l, e := infer.Demands(u)
		if want := typing(u, nil, always).demands; e != api.OK || !slices.Equal(l, want) {
			t.Error(seed, source(u), showDemands(l), e)
		}
		r := rand.New(rand.NewSource(seed))
		for range 6 {
			many := r.Intn(len(l) + 1)
			some := r.Perm(len(l))[:many]
			slices.Sort(some)
			is, e := infer.Types(u, some)
			o := typing(u, nil, func(n int) bool { return slices.Contains(some, n) })
			if e != api.OK || is == o.wrong {
				t.Error(seed, source(u), some, is, e)
			}
			if !is {
				no++
				continue
			}
			yes++
			for _, i := range r.Perm(many)[:min(many, 3)] {
				if is, e := infer.Types(u, slices.Delete(slices.Clone(some), i, i+1)); !is || e != api.OK {
					t.Error(seed, source(u), some, i, is, e)
				}
			}
		}
	})
	if yes < 1000 || no < 400 {
		t.Error("too few of one kind:", yes, no)
	}
}
