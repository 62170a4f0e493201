package term_test

import (
	"slices"
	"strings"
	"testing"

	"cabotage/api"
	"cabotage/term"
)

// P1.3
func TestFree(t *testing.T) {
	for _, x := range []struct{ s, want string }{
		{"0", ""}, {"stop", ""}, {"x()", "x"}, {"x(1)", "x"}, {"x(y)", "x y"}, {"z(y, 1 + c * b, z)", "b c y z"},
		{"if a == b then c() else d()", "a b c d"}, {"go p; watch q; a()", "a p q"}, {"go p; x(p)", "p x"},
		{"b() | a()", "a b"}, {"x() | x() | x(x)", "x"}, {"zz() | b() | aa()", "aa b zz"},
		// A TermDef binds in its Kid, and in all its Defs.
		{"def x() = 0 in x(x)", ""}, {"def x() = x() in 0", ""}, {"def x() = y() and y() = x() in 0", ""}, {"def x() = 0 and place p { in x() } in go p; 0", ""},
		{"def place p { x() = 0 in 0 } in x()", ""}, {"def place p { x() = 0 in 0 } and y() = x() in 0", ""}, {"def place p { place q { x() = 0 in 0 } in go q; x() } in watch q; 0", ""},
		{"def place p { in go q; 0 } and place q { in go p; 0 } in 0", ""}, {"def x() = y() in z()", "y z"}, {"(def x() = 0 in x()) | x()", "x"}, {"if x then def x() = 0 in x() else 0", "x"},
		// A rule binds its Names in its body alone.
		{"def x(a) = a() in 0", ""}, {"def x(a) = 0 in a()", "a"}, {"def x(a) = 0 and y() = a() in 0", "a"}, {"def x(a) = 0 and place p { in a() } in 0", "a"},
		{"def x(a) & y(b, c) = x(a, b, c) in 0", ""}, {"def x(a) & y(b) = go a; watch b; c() in 0", "c"}, {"def place p { x(a) = y(a) in a() } in 0", "a y"},
		{"def x(x) = x() in 0", ""}, {"def x(y) = def y() = z() in y() in 0", "z"}, {"def x(y) = (def y() = 0 in y()) | y() in y()", "y"},
		// Joins and the Texts of places are not where a name stands.
		{"def x() & y() = 0 and place p { in 0 } in 0", ""}, {example, "b q z"},
	} {
		if l, e := term.Free(read(x.s)); e != api.OK || strings.Join(l, " ") != x.want {
			t.Errorf("%s: %v %d, not %s", x.s, l, e, x.want)
		}
	}
	for i, u := range unformed() {
		if l, e := term.Free(u); len(l) > 0 || e != api.ErrArg {
			t.Error(i, l, e)
		}
	}
}

// P1.3: the same as the names of which a code says that they are free.
func TestFreeMade(t *testing.T) {
	formedOnes(t, func(seed int64, u api.Term) {
		exps, texts := freeNames(u)
		want := append(exps, texts...)
		slices.Sort(want)
		if l, e := term.Free(u); e != api.OK || !slices.Equal(l, slices.Compact(want)) {
			t.Errorf("%d: %v, not %v", seed, l, want)
		}
	})
}

// P1.3
func TestDefines(t *testing.T) {
	for _, x := range []struct{ s, channels, places string }{
		{"def x() = 0 in 0", "x", ""}, {"def place p { in 0 } in 0", "", "p"}, {example, "x y", "p"},
		{"def b() & a() = 0 and c() = 0 in 0", "b a c", ""}, {"def b() & a() = 0 and a() & c() & b() = 0 in 0", "b a c", ""},
		{"def place b { in 0 } and place a { in 0 } in 0", "", "b a"},
		// Those of the TermDef itself come first, wherever they stand; then those of places, each before the ones among its own Defs.
		{"def place r { b() = 0 and place s { c() = 0 in 0 } in 0 } and a() = 0 and place q { d() & e() = 0 in 0 } in 0", "a b c d e", "r s q"},
		{"def place r { place s { c() = 0 and d() = 0 in 0 } and b() = 0 in 0 } and place a { y() = 0 and x() = 0 in 0 } and z() = 0 in 0", "z b c d y x", "r s a"},
		{"def place a { place b { place c { x() = 0 in 0 } and place d { w() = 0 in 0 } in 0 } and y() = 0 in 0 } and place e { v() = 0 in 0 } in 0", "y x w v", "a b c d e"},
		// What is defined further inside, and Names, are not of it.
		{"def x(a) = def y() = 0 in 0 and place p { in def z() = 0 and place q { in 0 } in 0 } in def u() = 0 in 0", "x", "p"},
	} {
		c, p, e := term.Defines(read(x.s))
		if e != api.OK || strings.Join(c, " ") != x.channels || strings.Join(p, " ") != x.places {
			t.Errorf("%s: %v %v %d", x.s, c, p, e)
		}
	}
	for _, s := range []string{"0", "stop", "x()", "x() | (def x() = 0 in 0)", "if 1 then 0 else 0", "go p; def x() = 0 in 0", "watch p; 0"} {
		if c, p, e := term.Defines(read(s)); len(c)+len(p) > 0 || e != api.ErrNone {
			t.Error(s, c, p, e)
		}
	}
	for i, u := range unformed() {
		if c, p, e := term.Defines(u); len(c)+len(p) > 0 || e != api.ErrArg {
			t.Error(i, c, p, e)
		}
	}
}
