package infer_test

import (
	"math/rand"
	"slices"
	"testing"

	"cabotage/api"
	"cabotage/infer"
)

// deep is a type of so many nodes.
func deep(n int) api.InferType {
	x := ty("int")
	for range n - 1 {
		x = api.InferType{Op: api.InferChan, Kids: []api.InferType{x}}
	}
	return x
}

// noTypes returns what is none.
func noTypes() []api.InferType {
	one := []api.InferType{ty("int")}
	circle := make([]api.InferType, 1)
	circle[0] = api.InferType{Op: api.InferChan, Kids: circle}
	circles := make([]api.InferType, 3)
	for i := range circles {
		circles[i] = api.InferType{Op: api.InferChan, Kids: circles}
	}
	return []api.InferType{
		{}, {Op: -1}, {Op: 5}, {Op: api.InferInt, N: 1}, {Op: api.InferInt, Kids: one}, {Op: api.InferPlace, N: -1}, {Op: api.InferPlace, Kids: one}, {Op: api.InferChan, N: 1}, {Op: api.InferChan, N: 1, Kids: one},
		variable(-1), variable(1000), {Op: api.InferVar, Kids: one}, {Op: api.InferChan, Kids: slices.Repeat(one, 4)}, {Op: api.InferChan, Kids: make([]api.InferType, 1)}, {Op: api.InferChan, Kids: []api.InferType{ty("int"), ty("chan(0)"), variable(1000)}},
		deep(201), deep(100000), {Op: api.InferChan, Kids: []api.InferType{deep(100), deep(100)}}, circle[0], circles[1], {Op: api.InferChan, Kids: make([]api.InferType, 1000000)},
	}
}

// P4.5
func TestUnify(t *testing.T) {
	for _, x := range []struct{ a, b, want string }{
		{"chan(0, int)", "chan(place, 1)", "chan(place, int)"}, {"0", "chan(0)", ""}, {"chan(5, 7)", "3", "chan(0, 1)"},
		{"int", "int", "int"}, {"place", "place", "place"}, {"int", "place", ""}, {"int", "chan()", ""}, {"place", "chan()", ""}, {"chan()", "chan()", "chan()"}, {"chan()", "chan(int)", ""}, {"chan(0, 1)", "chan(0)", ""}, {"chan(0, 1)", "chan(0, 1, 2)", ""},
		{"0", "0", "0"}, {"7", "7", "0"}, {"8", "7", "0"}, {"999", "int", "int"}, {"place", "999", "place"}, {"chan(9)", "4", "chan(0)"},
		// variables with one number in both are one
		{"chan(0, 1)", "chan(1, 0)", "chan(0, 0)"}, {"chan(0, 1)", "chan(1, int)", "chan(int, int)"}, {"chan(0, chan(1))", "chan(1, 0)", ""}, {"chan(0)", "chan(chan(0))", ""}, {"chan(0, 0)", "chan(int, place)", ""}, {"chan(0, 0)", "chan(int, 1)", "chan(int, int)"}, {"chan(0, 0)", "chan(1, chan(1))", ""}, {"chan(0, chan(0))", "chan(1, 1)", ""},
		{"chan(0, 1)", "chan(chan(1), chan(0))", ""}, {"chan(0, 1)", "chan(chan(1), chan(2))", "chan(chan(chan(0)), chan(0))"}, {"chan(3, 2, 1)", "chan(4, 5, 6)", "chan(0, 1, 2)"}, {"chan(3, 2, 1)", "chan(4, 4, 6)", "chan(0, 0, 1)"}, {"chan(0, 1, 2)", "chan(1, 2, chan(9))", "chan(chan(0), chan(0), chan(0))"}, {"chan(0, 1, 2)", "chan(1, 2, chan(0))", ""}, {"chan(0, 1, 2)", "chan(1, 2, 0)", "chan(0, 0, 0)"},
		{"chan(chan(4, 2), 2)", "chan(8, chan(4, 4))", "chan(chan(0, chan(0, 0)), chan(0, 0))"}, {"chan(chan(0, 1), chan(1, 0))", "chan(2, 2)", "chan(chan(0, 0), chan(0, 0))"},
	} {
		for _, turned := range []bool{false, true} {
			a, b := x.a, x.b
			if turned {
				a, b = b, a
			}
			y, is, e := infer.Unify(ty(a), ty(b))
			if x.want == "" {
				if is || e != api.OK || show(y) != show(api.InferType{}) {
					t.Error(a, b, show(y), is, e)
				}
			} else if !is || e != api.OK || show(y) != x.want {
				t.Error(a, b, show(y), is, e)
			}
		}
	}
}

// two is a channel that brings two values.
func two(a, b api.InferType) api.InferType {
	return api.InferType{Op: api.InferChan, Kids: []api.InferType{a, b}}
}

// P4.5: at most 200 nodes; what cannot be equal is told even where it would be longer.
func TestUnifyLong(t *testing.T) {
	doubled := func(a, b api.InferType) (api.InferType, api.InferType) {
		for n := 2; n < 40; n += 2 { // 0 is twice 2, that is twice 4, ..
			a, b = two(a, two(variable(n), variable(n))), two(b, two(two(variable(n+2), variable(n+2)), variable(n)))
		}
		return a, b
	}
	x, y := doubled(ty("int"), ty("int"))
	u, w := doubled(ty("int"), ty("place"))
	for i, x := range []struct {
		a, b api.InferType
		is   bool
		e    api.Errno
		size int
	}{
		{deep(200), ty("0"), true, api.OK, 200}, {deep(200), deep(200), true, api.OK, 200}, {two(ty("0"), ty("0")), two(deep(99), ty("1")), true, api.OK, 199}, {two(ty("0"), ty("0")), two(deep(100), ty("1")), false, api.ErrLong, 1}, {two(ty("0"), ty("0")), two(deep(198), ty("1")), false, api.ErrLong, 1},
		{two(ty("0"), two(ty("0"), ty("int"))), two(deep(150), two(ty("1"), ty("place"))), false, api.OK, 1}, {two(ty("0"), two(ty("0"), ty("2"))), two(deep(150), two(ty("1"), ty("chan(2)"))), false, api.OK, 1},
		{x, y, false, api.ErrLong, 1}, {u, w, false, api.OK, 1},
	} {
		if y, is, e := infer.Unify(x.a, x.b); is != x.is || e != x.e || nodes(y) != x.size {
			t.Error(i, nodes(y), is, e)
		}
	}
}

// P4.5: what is no type.
func TestTypesOfNone(t *testing.T) {
	some := ty("chan(0)")
	for i, x := range noTypes() {
		for k, p := range [][2]api.InferType{{x, some}, {some, x}, {x, x}} {
			if y, is, e := infer.Unify(p[0], p[1]); is || e != api.ErrArg || show(y) != show(api.InferType{}) {
				t.Error(i, k, is, e)
			}
			if is, e := infer.Instance(p[:1], p[1:]); is || e != api.ErrArg {
				t.Error(i, k, is, e)
			}
			if is, e := infer.Instance([]api.InferType{ty("int"), p[0]}, []api.InferType{ty("place"), p[1]}); is || e != api.ErrArg {
				t.Error(i, k, is, e)
			}
		}
	}
}

// P4.5
func TestInstance(t *testing.T) {
	for _, x := range []struct {
		a, b string
		want bool
	}{
		{"0, 0", "int, int", true}, {"0, 0", "int, place", false}, {"chan(0)", "chan(5)", true}, {"", "", true}, {"0", "0", true}, {"0", "999", true}, {"0, 1", "3, 3", true}, {"0, 0", "3, 4", false}, {"0, 0", "3, 3", true}, {"1", "chan(1)", true}, {"0, 1", "1, 0", true}, {"0, 1", "chan(1), chan(0)", true}, {"0, chan(0)", "chan(0), chan(chan(0))", true}, {"0, chan(0)", "chan(0), chan(chan(1))", false}, {"0, chan(0)", "0, chan(1)", false},
		{"int", "0", false}, {"place", "0", false}, {"chan()", "0", false}, {"chan(int)", "chan(5)", false}, {"chan(5)", "chan(int)", true}, {"chan(5)", "chan()", false}, {"chan()", "chan()", true}, {"chan(0)", "chan(0, 1)", false}, {"int", "int", true}, {"int", "place", false}, {"place", "chan()", false}, {"chan(0, 1, 0)", "chan(int, place, int)", true}, {"chan(0, 1, 0)", "chan(int, int, place)", false}, {"chan(0, 1), 1", "chan(int, place), place", true}, {"chan(0, 1), 1", "chan(int, place), int", false},
	} {
		if is, e := infer.Instance(types(x.a), types(x.b)); is != x.want || e != api.OK {
			t.Error(x.a, "to", x.b, is, e)
		}
	}
	for _, x := range []struct{ a, b string }{{"0", ""}, {"", "0"}, {"0, 0", "int"}, {"int", "int, int"}, {"int", "place, int"}} {
		if is, e := infer.Instance(types(x.a), types(x.b)); is || e != api.ErrArg {
			t.Error(x.a, "to", x.b, is, e)
		}
	}
	// many types at once
	many := slices.Repeat([]api.InferType{variable(0), two(variable(1), variable(0))}, 1000)
	b := slices.Repeat([]api.InferType{deep(150), two(variable(7), deep(150))}, 1000)
	if is, e := infer.Instance(many, b); !is || e != api.OK {
		t.Error(is, e)
	}
	b[1999] = two(variable(7), deep(149))
	if is, e := infer.Instance(many, b); is || e != api.OK {
		t.Error(is, e)
	}
}

// matches reports whether a type becomes another one when variables become some types, of which some are known.
func matches(a, b api.InferType, known map[int]string) bool {
	if a.Op == api.InferVar {
		s, ok := known[a.N]
		known[a.N] = show(b)
		return !ok || s == show(b)
	}
	if a.Op != b.Op || len(a.Kids) != len(b.Kids) {
		return false
	}
	for i := range a.Kids {
		if !matches(a.Kids[i], b.Kids[i], known) {
			return false
		}
	}
	return true
}

// P4.5: an instance of both, and all that both become is an instance of it.
func TestUnifySmall(t *testing.T) {
	some := types("int, place, 0, 1, chan(), chan(0), chan(1), chan(int), chan(chan(0)), chan(0, 1), chan(1, 0), chan(0, 0), chan(0, int), chan(int, 1), chan(0, chan(1)), chan(chan(0), 1), chan(chan(1), 0), chan(chan(int), chan(int)), chan(chan(0), chan(0)), chan(0, chan(0)), chan(int, int), chan(int, chan(int)), chan(chan(place), place), chan(int, place)")
	var small []api.InferType
	for _, a := range types("int, place, chan(), chan(int), chan(chan(int)), chan(place)") {
		small = append(small, a)
		for _, b := range types("int, place, chan(), chan(int), chan(place)") {
			small = append(small, two(a, b))
		}
	}
	for _, a := range some {
		for _, b := range some {
			y, is, e := infer.Unify(a, b)
			if e != api.OK {
				t.Fatal(show(a), show(b), e)
			}
			for _, c := range small {
				known := map[int]string{}
				want := matches(a, c, known) && matches(b, c, known)
				got, e := infer.Instance([]api.InferType{y}, []api.InferType{c})
				if is && (e != api.OK || got != want) || !is && want {
					t.Error(show(a), show(b), show(y), is, "but", show(c), want)
				}
			}
		}
	}
}

// P4.5: against types as trees.
func TestUnifyMade(t *testing.T) {
	m := &made{Rand: rand.New(rand.NewSource(1))}
	yes, no := 0, 0
	for range 20000 {
		a, b := m.someType(20), m.someType(20)
		known := become{}
		is := known.equal(a, b)
		y, got, e := infer.Unify(a, b)
		if e != api.OK || got != is {
			t.Fatal(show(a), show(b), show(y), got, e)
		}
		if is {
			yes++
			want := known.full(a)
			vars := varsOf(want)
			anew := map[int]int{}
			for _, v := range vars {
				if _, ok := anew[v]; !ok {
					anew[v] = len(anew)
				}
			}
			want = putIn(want, func(n int) api.InferType { return variable(anew[n]) })
			if show(y) != show(want) {
				t.Fatal(show(a), show(b), show(y), show(want))
			}
			both, _ := infer.Instance([]api.InferType{two(a, b)}, []api.InferType{two(y, y)})
			one, _ := infer.Instance([]api.InferType{a}, []api.InferType{y})
			other, _ := infer.Instance([]api.InferType{b}, []api.InferType{y})
			if !both || !one || !other {
				t.Fatal(show(a), show(b), show(y), both, one, other)
			}
		} else {
			no++
		}
		l, k := []api.InferType{a, b}, []api.InferType{m.someType(20), b}
		if m.Intn(2) == 0 {
			k = m.someInstance(l)
		}
		known2 := map[int]string{}
		want := matches(a, k[0], known2) && matches(b, k[1], known2)
		if is, e := infer.Instance(l, k); is != want || e != api.OK {
			t.Fatal(showAll(l), showAll(k), is, e)
		}
	}
	if yes < 1000 || no < 1000 {
		t.Error("too few of one kind:", yes, no)
	}
}
