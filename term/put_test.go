package term_test

import (
	"math/rand"
	"slices"
	"strings"
	"testing"

	"cabotage/api"
	"cabotage/term"
)

// P1.4
func TestPut(t *testing.T) {
	rest := " and place p { in go q; x(1) } in y() | watch p; 0"
	for _, x := range []struct{ s, x, e, want string }{
		// The chapter's examples.
		{example, "b", "q", "def x(a) & y() = z(a, q)" + rest},
		{example, "b", "x", "def c(a) & y() = z(a, x) and place p { in go q; c(1) } in y() | watch p; 0"},
		{example, "b", "a", "def x(c) & y() = z(c, a)" + rest},
		{example, "w", "x", example},
		// Each free one, wherever it stands.
		{"x(b, b + 2, 1 < b * b)", "b", "7", "x(7, 7 + 2, 1 < 7 * 7)"}, {"x(b)", "b", "c + (1 - d)", "x(c + (1 - d))"}, {"x(1 - b)", "b", "1 - 1", "x(1 - (1 - 1))"},
		{"b() | b(b)", "b", "c", "c() | c(c)"}, {"go b; watch b; b(b)", "b", "c", "go c; watch c; c(c)"}, {"if b == 1 then b() else x(b)", "b", "c", "if c == 1 then c() else x(c)"},
		{"def x() = b() and place p { y() = go b; 0 in watch b; 0 } in b(b)", "b", "c", "def x() = c() and place p { y() = go c; 0 in watch c; 0 } in c(c)"},
		{"0", "b", "1", "0"}, {"stop | b()", "b", "z", "stop | z()"}, {"b()", "a", "1", "b()"}, {"b(c)", "c", "b", "b(b)"},
		// None that is bound.
		{"def b() = b() in b()", "b", "1", "def b() = b() in b()"}, {"def x(b) = z(b) in z(b)", "b", "1", "def x(b) = z(b) in z(1)"},
		{"z(b) | (def b() = b() and place p { in b() } in z(b))", "b", "1", "z(1) | (def b() = b() and place p { in b() } in z(b))"},
		{"z(b) | (def place b { y() = go b; 0 in 0 } in watch b; 0)", "b", "c", "z(c) | (def place b { y() = go b; 0 in 0 } in watch b; 0)"},
		{"def b(a) = z(a) in z(a, b)", "a", "2", "def b(a) = z(a) in z(2, b)"}, {"def x(b) & y(a) = z(b) and u(c) = z(b) in 0", "b", "1", "def x(b) & y(a) = z(b) and u(c) = z(1) in 0"},
		{"def x(p) = go p; b() and place p { in 0 } in go p; 0", "b", "c", "def x(p) = go p; c() and place p { in 0 } in go p; 0"},
		// The same one.
		{"def a() = b(a) in 0", "b", "b", "def a() = b(a) in 0"}, {"b() | (def b() = b() in b())", "b", "b", "b() | (def b() = b() in b())"},
	} {
		if v, e := term.Put(read(x.s), x.x, readExp(x.e)); e != api.OK || !same(v, read(x.want)) {
			t.Errorf("%s in place of %s in %s: %d %v", x.e, x.x, x.s, e, v)
		}
	}
}

// P1.4: names that are chosen anew.
func TestPutAnew(t *testing.T) {
	for _, x := range []struct{ s, x, e, want string }{
		// Channels, places and Names of rules: where they are defined, and where they stand.
		{"def a() & y() = a() and a() & u() = y() in a() | b()", "b", "a", "def c() & y() = c() and c() & u() = y() in c() | a()"},
		{"def place a { in go a; b() } in watch a; a()", "b", "a", "def place c { in go c; a() } in watch c; c()"},
		{"def place p { place q { a() = 0 in a(a) } in a() } and y() = a() in z(b)", "b", "a", "def place p { place q { c() = 0 in c(c) } in c() } and y() = c() in z(a)"},
		{"def x(a, c) & y(d) = a(c, d, b) in a(c, d)", "b", "a * d", "def x(e, c) & y(f) = e(c, f, a * d) in a(c, d)"},
		{"def a(a) = a(b) in a(1)", "b", "a", "def c(d) = d(a) in c(1)"},
		{"def a(a) = a() in a(b)", "b", "a", "def c(a) = a() in c(a)"},
		// In their order, each with the next one.
		{"def c() & a() = z(b) and place d { in 0 } in a() | c()", "b", "a + c + d", "def e() & f() = z(a + c + d) and place g { in 0 } in f() | e()"},
		{"def place a { in 0 } and c() = z(b) in 0", "b", "a - c", "def place e { in 0 } and d() = z(a - c) in 0"},
		{"def x(d, a) & y(c) = z(b, a) in 0", "b", "c + a", "def x(d, e) & y(f) = z(c + a, e) in 0"},
		// Those that are not free in the expression stay.
		{"def a() & c() = z(b) in a() | c()", "b", "c", "def a() & d() = z(c) in a() | d()"},
		// Only where a free one stands within.
		{"b() | (def a() = a() in a())", "b", "a", "a() | (def a() = a() in a())"},
		{"def x(a) = z(a) and y(a) = b(a) in 0", "b", "a", "def x(a) = z(a) and y(c) = a(c) in 0"},
		{"b() | (def a() = 0 in def b() = a() in b())", "b", "a", "a() | (def a() = 0 in def b() = a() in b())"},
		{"def x(a) = def b() = b(a) in 0 in z(b)", "b", "a", "def x(a) = def b() = b(a) in 0 in z(a)"},
		// Not where what stands within is bound further outside.
		{"b(a) | (def b() = 0 and y(a) = b() in 0)", "b", "a", "a(a) | (def b() = 0 and y(a) = b() in 0)"},
		{"b() | (def b() = def a() = b() in a() in 0)", "b", "a", "a() | (def b() = def a() = b() in a() in 0)"},
		{"def y(b) = def x(a) = b(a) in 0 in z(b)", "b", "a", "def y(b) = def x(a) = b(a) in 0 in z(a)"},
		{"def a() = b() and y(b) = a(b) in 0", "b", "a", "def c() = a() and y(b) = c(b) in 0"},
		// What is bound anew further inside is another one.
		{"def a() = b() in def a() = 0 in a()", "b", "a", "def c() = a() in def a() = 0 in a()"},
		{"def a() = b() and y(a) = a() in a()", "b", "a", "def c() = a() and y(a) = a() in c()"},
		{"def x(a) = b(a) | (def y(a) = z(a) in u(a)) in 0", "b", "a", "def x(c) = a(c) | (def y(a) = z(a) in u(c)) in 0"},
		// From outside inwards, the first ones first.
		{"def x(a) = def y(a) = b(a) in 0 in 0", "b", "a", "def x(c) = def y(d) = a(d) in 0 in 0"},
		{"def x(a) = b(a) and y(a) = b(a) in 0", "b", "a", "def x(c) = a(c) and y(d) = a(d) in 0"},
		{"def x(a) = b(a) in def y(a) = b(a) in 0", "b", "a", "def x(c) = a(c) in def y(d) = a(d) in 0"},
		{"(def x(a) = b(a) in 0) | (def y(a) = b(a) in 0)", "b", "a", "(def x(c) = a(c) in 0) | (def y(d) = a(d) in 0)"},
		{"def place p { x(a) = b(a) in def y(a) = b(a) in 0 } in def u(a) = b(a) in 0", "b", "a", "def place p { x(c) = a(c) in def y(d) = a(d) in 0 } in def u(e) = a(e) in 0"},
		{"def x(a) = def y(a) = b(a) in 0 and z(a) = b(a) in 0", "b", "a", "def x(c) = def y(d) = a(d) in 0 and z(e) = a(e) in 0"},
		{"def a() = def x(a) = b(a) in a() in a() | b()", "b", "a", "def c() = def x(d) = a(d) in c() in c() | a()"},
		// The new names are none that stand anywhere, are bound or belong to definitions, and none of the expression.
		{"def x(a) = z(a, b) in def c(d) & e() = 0 and place f { in 0 } in g(h)", "b", "a", "def x(i) = z(i, a) in def c(d) & e() = 0 and place f { in 0 } in g(h)"},
		{"def x(a) = z(a, b) in 0", "b", "a + c * (d - e)", "def x(f) = z(f, a + c * (d - e)) in 0"},
		{"c() | (def x(a) = z(a, b) in 0) | go d; watch e; if f then 0 else y(1, g < h)", "b", "a", "c() | (def x(i) = z(i, a) in 0) | go d; watch e; if f then 0 else y(1, g < h)"},
		{"def x(b) = z(a, b) in z(a)", "a", "b", "def x(c) = z(b, c) in z(b)"},
		{"def x(c) = z(a, c) in z(a)", "a", "c", "def x(b) = z(c, b) in z(c)"},
	} {
		if v, e := term.Put(read(x.s), x.x, readExp(x.e)); e != api.OK || !same(v, read(x.want)) {
			t.Errorf("%s in place of %s in %s: %d %v", x.e, x.x, x.s, e, v)
		}
	}
}

// P1.4: what is refused, and in which order.
func TestPutRefused(t *testing.T) {
	goes := func(n int) string { return strings.Repeat("go p; ", n) }
	deep := "1 - (1 - (1 - (1 - (1 - 1))))"
	for _, x := range []struct {
		s, x string
		e    api.TermExp
		want api.Errno
	}{
		{"b()", "b", num(1), api.ErrRule}, {"go b; 0", "b", num(1), api.ErrRule}, {"watch b; 0", "b", num(1), api.ErrRule}, {example, "q", readExp("1 + 1"), api.ErrRule},
		{example, "q", readExp("a < b"), api.ErrRule}, {"z(b) | b()", "b", num(0), api.ErrRule}, {"def x() = if 1 then 0 else b() in 0", "b", num(0), api.ErrRule},
		{"def place p { in go b; 0 } in 0", "b", num(0), api.ErrRule}, {"def b() = b() in b()", "b", num(0), api.OK}, {"def x(b) = b() in z(b)", "b", num(0), api.OK},
		{"z(b)", "b", num(1), api.OK}, {"b()", "c", num(1), api.OK}, {"def b() & x() = z(a) in 0", "b", num(1), api.OK},
		// Too deep, or too many nodes.
		{goes(9) + "z(b)", "b", readExp("1 + 1"), api.OK}, {goes(10) + "z(b)", "b", readExp("1 + 1"), api.ErrLong}, {goes(10) + "z(b)", "b", num(1), api.OK}, {goes(10) + "z(b)", "c", readExp("1 + 1"), api.OK},
		{goes(5) + "z(b)", "b", readExp(deep), api.OK}, {goes(6) + "z(b)", "b", readExp(deep), api.ErrLong}, {"z(1 - (1 - (1 - (1 - b))))", "b", readExp(deep), api.OK}, {"go p; go p; z(1 - (1 - (1 - (1 - b))))", "b", readExp(deep), api.ErrLong},
		{"go p; go p; z(b, b, b)", "b", sum(19), api.OK}, {"go p; go p; go p; z(b, b, b)", "b", sum(19), api.ErrLong}, {"z(b, b, b)", "b", sum(21), api.ErrLong}, {"z(b, b)", "b", sum(29), api.OK}, {"z(b, b)", "b", sum(31), api.ErrLong},
		// In this order.
		{goes(10) + "b(b)", "b", readExp("1 + 1"), api.ErrRule}, {"b(b, b, b)", "b", sum(21), api.ErrRule},
		{"b()", "", num(1), api.ErrArg}, {"b()", "in", num(1), api.ErrArg}, {"b()", "B", num(1), api.ErrArg}, {"b()", "abcdefghi", num(1), api.ErrArg}, {"0", "b1", name("a"), api.ErrArg},
		{"b()", "b", api.TermExp{}, api.ErrArg}, {"b()", "b", name("stop"), api.ErrArg}, {"0", "b", num(api.TermMost + 1), api.ErrArg}, {"0", "b", api.TermExp{Op: api.TermAdd}, api.ErrArg}, {"0", "b", sum(61), api.ErrArg},
		{"x(1, 2, 3, b)", "b", num(1), api.ErrArg}, {"x(place) | x(b)", "b", name("c"), api.ErrArg},
	} {
		v, e := term.Put(read(x.s), x.x, x.e)
		if e != x.want || (e == api.OK) == same(v, api.Term{}) {
			t.Errorf("%v in place of %s in %s: %d, not %d: %v", x.e, x.x, x.s, e, x.want, v)
		}
	}
	for i, u := range unformed() {
		if v, e := term.Put(u, "b", num(1)); e != api.ErrArg || !same(v, api.Term{}) {
			t.Error(i, e, v)
		}
	}
}

// P1.4: it says what it should, with the names that it should.
func TestPutMade(t *testing.T) {
	formedOnes(t, func(seed int64, u api.Term) {
		m := &made{rand.New(rand.NewSource(seed)), 9}
		x, e := m.name(), m.exp(3)
		if seed%3 > 0 {
			e = name(m.name())
		}
		v, f := term.Put(u, x, e)
		exps, texts := freeNames(u)
		if e.Op != api.TermName && slices.Contains(texts, x) {
			if f != api.ErrRule {
				t.Errorf("%d: %v in place of %s: %d: %v", seed, e, x, f, u)
			}
			return
		}
		if f == api.ErrLong && slices.Contains(exps, x) && e.Op != api.TermName {
			return
		}
		want := code(u, instead(x, plainExp(e)), instead(x, e.Text))
		if f != api.OK || plain(v) != want || !same(binders(v), chosen(u, x, e)) {
			t.Errorf("%d: %v in place of %s in %v: %d %v", seed, e, x, u, f, v)
		}
		free, _ := term.Free(u)
		if i := slices.Index(free, x); i >= 0 {
			free = append(slices.Delete(free, i, i+1), namesOf(e)...)
			slices.Sort(free)
		}
		if l, _ := term.Free(v); !slices.Equal(l, slices.Compact(free)) {
			t.Errorf("%d: %v are free, not %v", seed, l, free)
		}
	})
}

func instead(x, s string) func(string) string {
	return func(n string) string {
		if n == x {
			return s
		}
		return n
	}
}

func namesOf(e api.TermExp) []string {
	var l []string
	if e.Op == api.TermName {
		l = append(l, e.Text)
	}
	for _, k := range e.Kids {
		l = append(l, namesOf(k)...)
	}
	return l
}

// chosen returns what the parts of a process bind when e has been put in place of x.
func chosen(u api.Term, x string, e api.TermExp) [][]string {
	exps, texts := freeNames(u)
	used := slices.Concat(exps, texts, namesOf(e), []string{x}, boundTexts(u))
	next := func() string {
		s := term.Fresh(used)
		used = append(used, s)
		return s
	}
	var out [][]string
	var process func(u api.Term, hidden bool)
	part := func(names, free []string, hidden bool) bool {
		hidden = hidden || slices.Contains(names, x)
		l := slices.Clone(names)
		for i, n := range names {
			if !hidden && slices.Contains(free, x) && slices.Contains(namesOf(e), n) {
				l[i] = next()
			}
		}
		out = append(out, l)
		return hidden
	}
	var clauses func(l []api.TermClause, hidden bool)
	clauses = func(l []api.TermClause, hidden bool) {
		for _, d := range l {
			in := hidden
			if d.Form == api.TermRule {
				var names []string
				for _, j := range d.Joins {
					names = append(names, j.Names...)
				}
				in = part(names, slices.Concat(pair(freeNames(d.Kids[0]))...), hidden)
			}
			clauses(d.Defs, in)
			process(d.Kids[0], in)
		}
	}
	process = func(u api.Term, hidden bool) {
		if u.Op == api.TermDef {
			hidden = part(defined(u.Defs), slices.Concat(pair(freeNames(u))...), hidden)
		}
		clauses(u.Defs, hidden)
		for _, k := range u.Kids {
			process(k, hidden)
		}
	}
	process(u, false)
	return out
}

func pair(a, b []string) [][]string { return [][]string{a, b} }

// boundTexts returns the names that are bound in a process, and those that stand where they are bound.
func boundTexts(u api.Term) []string { return slices.Concat(binders(u)...) }

// P1.4: two that are put one after the other.
func TestPutTwice(t *testing.T) {
	count := 0
	formedOnes(t, func(seed int64, u api.Term) {
		m := &made{rand.New(rand.NewSource(seed)), 9}
		x, y, e, f := "a", "b", m.exp(2), m.exp(2)
		if seed%2 > 0 {
			e, f = name(m.name()), name(m.name())
		}
		if slices.Contains(namesOf(f), x) {
			return
		}
		first, e1 := term.Put(u, x, e)
		first, e2 := term.Put(first, y, f)
		second, e3 := term.Put(u, y, f)
		second, e4 := term.Put(second, x, within(e, y, f))
		if e1 != api.OK || e2 != api.OK || e3 != api.OK || e4 != api.OK {
			return
		}
		count++
		if is, g := term.Alike(first, second); !is || g != api.OK || plain(first) != plain(second) {
			t.Errorf("%d: %v for %s, then %v for %s: %v", seed, e, x, f, y, u)
		}
	})
	if count < 100 {
		t.Error("only", count)
	}
}

func within(e api.TermExp, y string, f api.TermExp) api.TermExp {
	if e.Op == api.TermName && e.Text == y {
		return f
	}
	var l []api.TermExp
	for _, k := range e.Kids {
		l = append(l, within(k, y, f))
	}
	e.Kids = l
	return e
}
