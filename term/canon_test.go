package term_test

import (
	"slices"
	"strings"
	"testing"

	"cabotage/api"
	"cabotage/term"
)

// P1.5
func TestCanon(t *testing.T) {
	for _, x := range []struct{ s, want string }{
		{example, "def a(e) & c() = z(e, b) and place d { in go q; a(1) } in c() | watch d; 0"},
		{"0", "0"}, {"x(y) | go z; stop", "x(y) | go z; stop"}, {"def x() = 0 in x()", "def a() = 0 in a()"},
		// Channels, then places; those of the TermDef itself come first.
		{"def place p { y() = 0 in y() } and x() & z() = y() in go p; x()", "def place d { c() = 0 in c() } and a() & b() = c() in go d; a()"},
		{"def place p { place q { z() = 0 in 0 } in go q; 0 } and place r { y() = 0 in z() } in y()", "def place c { place d { a() = 0 in 0 } in go d; 0 } and place e { b() = 0 in a() } in b()"},
		// A part before its parts, and these in order.
		{"def x(u) = def y(v) = y(u, v) in 0 and z(w) = x(w) in def t() = 0 in t(t)", "def a(c) = def d(e) = d(c, e) in 0 and b(f) = a(f) in def g() = 0 in g(g)"},
		{"(def x() = 0 in x()) | (def x() = 0 in x())", "(def a() = 0 in a()) | (def b() = 0 in b())"},
		{"if 1 then def x() = 0 in x() else (go p; def x() = 0 in x()) | watch q; def y() = 0 in y()", "if 1 then def a() = 0 in a() else (go p; def b() = 0 in b()) | watch q; def c() = 0 in c()"},
		{"def place p { x(u) & y(v, w) = y(v, w, u) in def z() = 0 in 0 } in def z() = 0 in z()", "def place c { a(d) & b(e, f) = b(e, f, d) in def g() = 0 in 0 } in def h() = 0 in h()"},
		{"def place p { x(u) = 0 in def y() = 0 in 0 } and z(w) = 0 in 0", "def place c { b(d) = 0 in def e() = 0 in 0 } and a(f) = 0 in 0"},
		// What is free anywhere is not chosen; what was bound once may be.
		{"(def x(y) = a(y) in 0) | b(d)", "(def c(e) = a(e) in 0) | b(d)"}, {"(def x(y) = 0 in 0) | go a; watch c; 0", "(def b(d) = 0 in 0) | go a; watch c; 0"}, {"def b() & a() = b() in a()", "def a() & b() = a() in b()"},
		// What is bound again is another one.
		{"def x(x) = x(x) in x(x)", "def a(b) = b(b) in a(a)"}, {"def x() = def x() = x() in x() in x()", "def a() = def b() = b() in b() in a()"}, {"def x(p) = go p; 0 and place p { in 0 } in go p; 0", "def a(c) = go c; 0 and place b { in 0 } in go b; 0"},
	} {
		v, e := term.Canon(read(x.s))
		if e != api.OK || !same(v, read(x.want)) {
			t.Errorf("%s: %d %v", x.s, e, v)
		}
	}
	for i, u := range unformed() {
		if v, e := term.Canon(u); e != api.ErrArg || !same(v, api.Term{}) {
			t.Error(i, e, v)
		}
	}
}

// P1.5: more names than letters, and no keyword among them. What uses most names are rules of three channels with three values each.
func TestCanonManyNames(t *testing.T) {
	letter := func(i int) string { return string(rune('a'+i/26)) + string(rune('a'+i%26)) + "x" }
	count := 0
	var l []api.TermClause
	for range 5 {
		c := api.TermClause{Form: api.TermPlace, Text: letter(count), Kids: nothings(1)}
		count++
		for range 5 {
			r := api.TermClause{Form: api.TermRule, Kids: nothings(1)}
			for range 3 {
				j := api.TermMsg{Text: letter(count), Names: []string{letter(count + 1), letter(count + 2), letter(count + 3)}}
				count += 4
				r.Joins = append(r.Joins, j)
			}
			c.Defs = append(c.Defs, r)
		}
		l = append(l, c)
	}
	l[4].Defs = l[4].Defs[:3]
	u := api.Term{Op: api.TermDef, Defs: l, Kids: []api.Term{{Op: api.TermPar, Kids: []api.Term{send("a"), send("gn", name("gp"))}}}}
	u.Defs[3].Defs = u.Defs[3].Defs[:4]
	v, e := term.Canon(u)
	if e != api.OK {
		t.Fatal(e)
	}
	got := slices.Concat(binders(v)...)
	if len(got) < 200 || !slices.Equal(got, first(len(got), []string{"a", "gn", "gp"})) {
		t.Error(got)
	}
}

// first returns the first names that are none of some others.
func first(n int, others []string) []string {
	var l []string
	for range n {
		l = append(l, term.Fresh(slices.Concat(l, others)))
	}
	return l
}

// P1.5
func TestCanonMade(t *testing.T) {
	formedOnes(t, func(seed int64, u api.Term) {
		v, e := term.Canon(u)
		if e != api.OK || plain(v) != plain(u) {
			t.Errorf("%d: %d %v, not like %v", seed, e, v, u)
		}
		free, _ := term.Free(u)
		names := slices.Concat(binders(v)...)
		once := []string{}
		for _, n := range names {
			if !slices.Contains(once, n) {
				once = append(once, n)
			}
		}
		if len(once) != len(names) || !slices.Equal(names, first(len(names), free)) {
			t.Errorf("%d: %v has been chosen in %v", seed, names, v)
		}
		if w, e := term.Canon(v); e != api.OK || !same(v, w) {
			t.Errorf("%d: %d %v, then %v", seed, e, v, w)
		}
		if is, e := term.Alike(u, v); !is || e != api.OK {
			t.Errorf("%d: %v is not like %v", seed, u, v)
		}
	})
}

// P1.5
func TestAlike(t *testing.T) {
	for _, x := range []struct {
		a, b string
		want bool
	}{
		{example, "def u(w) & v() = z(w, b) and place x { in go q; u(1) } in v() | watch x; 0", true},
		{example, "def y(a) & x() = z(a, b) and place p { in go q; y(1) } in x() | watch p; 0", true},
		{example, "def x(a) & y() = z(a, c) and place p { in go q; x(1) } in y() | watch p; 0", false},
		{example, "def x(a) & y() = z(b, b) and place p { in go q; x(1) } in y() | watch p; 0", false},
		{example, "def x(a) & y() = z(a, b) and place p { in go r; x(1) } in y() | watch p; 0", false},
		{example, "def x(a) & y() = z(a, b) and place p { in go q; x(2) } in y() | watch p; 0", false},
		{example, "def x(a) & y() = z(a, b) and place p { in go q; x(1) } in x() | watch p; 0", false},
		{example, "def x(a) & y() = z(a, b) and place p { in go q; x(1) } in y() | go p; 0", false},
		{example, "def x() & y() = z(a, b) and place p { in go q; x(1) } in y() | watch p; 0", false},
		{example, "def y() & x(a) = z(a, b) and place p { in go q; x(1) } in y() | watch p; 0", false},
		{example, "def place p { in go q; x(1) } and x(a) & y() = z(a, b) in y() | watch p; 0", false},
		{example, "def x(a) = z(a, b) and y() = z(1, b) and place p { in go q; x(1) } in y() | watch p; 0", false},
		{"0", "0", true}, {"0", "stop", false}, {"x()", "y()", false}, {"x(1)", "x()", false}, {"x(1 + 2)", "x(1 - 2)", false}, {"x(1 + 2)", "x(2 + 1)", false}, {"x() | y()", "y() | x()", false}, {"x() | 0", "x()", false},
		{"def x(a, b) = z(a) in 0", "def x(b, a) = z(b) in 0", true}, {"def x(a, b) = z(a) in 0", "def x(a, b) = z(b) in 0", false}, {"def x(a) = z() in 0", "def x(a) = z() in x()", false},
		{"def x(a, b) & y(c) = z(b) in 0", "def x(a) & y(b, c) = z(b) in 0", false}, {"def x(a) = 0 and y() = 0 in 0", "def x() = 0 and y(a) = 0 in 0", false},
		{"def x() = 0 in x()", "def y() = 0 in x()", false}, {"def x() = y() in 0", "def y() = x() in 0", false}, {"def x() = x() in 0", "def y() = y() in 0", true},
		{"def x() & y() = 0 in 0", "def x() = 0 and y() = 0 in 0", false}, {"def x() = 0 in 0", "def place p { x() = 0 in 0 } in 0", false}, {"def place p { in 0 } and place q { in 0 } in go p; 0", "def place q { in 0 } and place p { in 0 } in go q; 0", true},
		{"def place p { in 0 } and place q { in 0 } in go p; 0", "def place p { in 0 } and place q { in 0 } in go q; 0", false}, {"def place p { place q { in 0 } in 0 } in 0", "def place p { in 0 } and place q { in 0 } in 0", false},
		// The same names stand, but they are bound elsewhere.
		{"def x(a) = (def y(a) = z(a) in 0) in 0", "def x(a) = (def y(b) = z(a) in 0) in 0", false}, {"def x(a) = (def y(a) = z(a) in 0) in 0", "def x(a) = (def y(b) = z(b) in 0) in 0", true},
		{"(def x() = 0 in x()) | x()", "(def y() = 0 in y()) | x()", true}, {"(def x() = 0 in x()) | x()", "(def y() = 0 in x()) | x()", false}, {"def a() = 0 in b()", "def b() = 0 in a()", false},
	} {
		for _, turned := range []bool{false, true} {
			a, b := x.a, x.b
			if turned {
				a, b = b, a
			}
			if is, e := term.Alike(read(a), read(b)); is != x.want || e != api.OK {
				t.Errorf("%s and %s: %v %d", a, b, is, e)
			}
		}
	}
	for i, u := range unformed() {
		for k, p := range [][2]api.Term{{u, u}, {u, read("0")}, {read("0"), u}} {
			if is, e := term.Alike(p[0], p[1]); is || e != api.ErrArg {
				t.Error(i, k, is, e)
			}
		}
	}
	empty := api.Term{Op: api.TermNil, Kids: []api.Term{}, Args: []api.TermExp{}, Defs: []api.TermClause{}}
	if is, e := term.Alike(empty, read("0")); !is || e != api.OK {
		t.Error("nil and empty lists are the same:", is, e)
	}
}

// P1.5: among small processes there are many that are alike.
func TestAlikeMade(t *testing.T) {
	var l []api.Term
	for i := range 12 {
		for _, s := range []string{"def a(b) = X(Y) in 0", "def X() = Y() in X()", "def a() = X() in def Y() = a() in b()", "def place X { Y() = 0 in a() } in go b; 0"} {
			l = append(l, read(strings.NewReplacer("X", string(rune('a'+i%3)), "Y", string(rune('a'+i/3%4))).Replace(s)))
		}
	}
	count := 0
	for _, u := range l {
		for _, v := range l {
			is, e := term.Alike(u, v)
			if term.Check(u) != api.OK || term.Check(v) != api.OK {
				if e != api.ErrArg || is {
					t.Fatal(u, v, is, e)
				}
				continue
			}
			if e != api.OK || is != (plain(u) == plain(v)) {
				t.Fatalf("%v and %v: %v %d", u, v, is, e)
			}
			if is {
				count++
				a, _ := term.Free(u)
				b, _ := term.Free(v)
				n, deep := size(u)
				m, deeper := size(v)
				if !slices.Equal(a, b) || n != m || deep != deeper {
					t.Fatal(u, v)
				}
			}
		}
	}
	if count <= len(l) {
		t.Error("only", count)
	}
}
