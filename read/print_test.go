package read_test

import (
	"math/rand"
	"strings"
	"testing"

	"cabotage/api"
	"cabotage/read"
)

// P2.5
func TestPrint(t *testing.T) {
	one, a, b := num(1), send("a"), send("b")
	for _, x := range []struct {
		u    api.Term
		want string
	}{
		{exampleTerm(), "def x(a) & y() = z(a, b) and place p { in go q; x(1) } in y() | watch p; 0"},
		{par(par(stop(), zero()), zero()), "(stop | 0) | 0"}, {par(choose(one, zero(), send("x")), zero()), "(if 1 then 0 else x()) | 0"},
		{zero(), "0"}, {stop(), "stop"}, {a, "a()"}, {send("a", one, name("b"), num(-3)), "a(1, b, ~3)"}, {par(a, par(b, zero())), "a() | b() | 0"}, {par(par(a, par(b, zero())), par(par(a, b), stop())), "(a() | b() | 0) | (a() | b()) | stop"},
		{par(toward(api.TermGo, "p", a), b), "(go p; a()) | b()"}, {par(toward(api.TermWatch, "p", a), b), "(watch p; a()) | b()"}, {par(define(a, rule(zero(), msg("x"))), b), "(def x() = 0 in a()) | b()"}, {toward(api.TermGo, "p", par(a, b)), "go p; a() | b()"}, {toward(api.TermWatch, "p", par(par(a, b), b)), "watch p; (a() | b()) | b()"}, {par(a, toward(api.TermGo, "p", toward(api.TermWatch, "q", b))), "a() | go p; watch q; b()"},
		{choose(one, choose(one, a, b), choose(one, b, a)), "if 1 then if 1 then a() else b() else if 1 then b() else a()"}, {choose(two(api.TermLess, one, name("b")), par(a, b), par(b, a)), "if 1 < b then a() | b() else b() | a()"}, {choose(two(api.TermSame, two(api.TermLess, one, one), one), define(a, rule(b, msg("b"))), a), "if (1 < 1) == 1 then def b() = b() in a() else a()"},
		{define(define(a, rule(zero(), msg("y"))), rule(define(b, rule(zero(), msg("z", "c")), rule(zero(), msg("z", "d"))), msg("x")), rule(zero(), msg("w"), msg("x"))), "def x() = def z(c) = 0 and z(d) = 0 in b() and w() & x() = 0 in def y() = 0 in a()"},
		{define(a, place("p", stop(), rule(zero(), msg("x", "c", "d")), place("q", par(a, b))), place("r", zero())), "def place p { x(c, d) = 0 and place q { in a() | b() } in stop } and place r { in 0 } in a()"},
		{send("x", two(api.TermSame, two(api.TermLess, one, one), two(api.TermAdd, one, one)), two(api.TermMul, two(api.TermMul, one, one), two(api.TermSub, one, one))), "x((1 < 1) == 1 + 1, 1 * 1 * (1 - 1))"},
	} {
		if s, e := read.Print(x.u); s != x.want || e != api.OK {
			t.Errorf("%q %d, not %q", s, e, x.want)
		}
	}
	for i, u := range unformed() {
		if s, e := read.Print(u); s != "" || e != api.ErrArg {
			t.Errorf("%d: %q %d", i, s, e)
		}
	}
}

// P2.5
func TestPrintExp(t *testing.T) {
	for _, s := range []string{
		"1 - (2 - 3)", "(1 < 2) == 0", "1 - 2 - 3 * 4 == ~5", "0", "~1000000000", "abcdefgh", "a * (a * 1)", "a * a * 1", "(a + 1) * (1 - a)", "a < (a == 1)", "(a == 1) < (a < 1)", "1 + a * 1", "(a < 1) + 1", "a + (1 == a)", "a + 1 < a - 1", "a + (1 + a)", "a + 1 + a - a", "a - (1 + a)", "a * (1 + a * a) * (a < a)", "(a < 1) * a", "a * b + c * d", "a + b * c - d",
	} {
		x, e := read.Exp(s)
		got, f := read.PrintExp(x)
		if e != api.OK || got != s || f != api.OK {
			t.Errorf("%q: %d %q %d", s, e, got, f)
		}
	}
	loop := two(api.TermAdd, num(1), num(1))
	loop.Kids[0] = loop
	for i, x := range []api.TermExp{{}, {Op: 8}, name("in"), name(""), num(1000000001), two(api.TermAdd, num(1), api.TermExp{}), {Op: api.TermAdd, Kids: []api.TermExp{num(1)}}, {Op: api.TermInt, Text: "a"}, loop} {
		if s, e := read.PrintExp(x); s != "" || e != api.ErrArg {
			t.Errorf("%d: %q %d", i, s, e)
		}
	}
}

// spaced returns tokens with the blanks between them that the chapter says.
func spaced(l []string) string {
	s := " " + strings.Join(l, " ") + " "
	for _, k := range []string{")", ",", ";"} {
		s = strings.ReplaceAll(s, " "+k, k)
	}
	s = strings.ReplaceAll(s, "( ", "(")
	for i, k := range l {
		if i > 0 && k == "(" && isName(l[i-1]) {
			s = strings.ReplaceAll(s, " "+l[i-1]+" (", " "+l[i-1]+"(")
			s = strings.ReplaceAll(s, "("+l[i-1]+" (", "("+l[i-1]+"(")
		}
	}
	return strings.TrimSpace(s)
}

// pairs returns the bytes of the brackets of a source that belong together.
func pairs(s string) [][2]int {
	var open []int
	var l [][2]int
	for i := range len(s) {
		switch s[i] {
		case '(':
			open = append(open, i)
		case ')':
			l = append(l, [2]int{open[len(open)-1], i})
			open = open[:len(open)-1]
		}
	}
	return l
}

// holds what is printed against what reads it: it says the same, has blanks where it should, and no pair of brackets too many.
func printed[T any](t *testing.T, x T, s string, e api.Errno, read func(string) (T, api.Errno)) {
	if e != api.OK {
		t.Fatal(e, x)
	}
	if y, e := read(s); e != api.OK || !same(x, y) {
		t.Fatalf("%q: %v %d, not %v", s, y, e, x)
	}
	if want := spaced(cut(s).texts); s != want {
		t.Fatalf("%q, not %q", s, want)
	}
	for _, p := range pairs(s) {
		b := []byte(s)
		b[p[0]], b[p[1]] = ' ', ' '
		if y, e := read(string(b)); e == api.OK && same(x, y) {
			t.Fatalf("%q says the same as %q", b, s)
		}
	}
}

// P2.5: what is printed is read as what it was, and no brackets can be left out; with other blanks it says the same.
func TestPrintMade(t *testing.T) {
	formedOnes(t, 1500, func(m *rand.Rand, u api.Term) {
		before := text(u)
		s, e := read.Print(u)
		printed(t, u, s, e, read.Parse)
		if text(u) != before {
			t.Fatal("changed: ", u)
		}
		other, _ := source(m, u, false)
		if got := strings.Join(cut(other).texts, " "); got != strings.Join(cut(s).texts, " ") {
			t.Fatalf("%q and %q", s, got)
		}
		if v, e := read.Parse(other); e != api.OK || !same(u, v) {
			t.Fatalf("%q: %v %d", other, v, e)
		}
	})
}

// P2.5
func TestPrintExpMade(t *testing.T) {
	m := &made{Rand: rand.New(rand.NewSource(6))}
	for range 2000 {
		m.left = 30
		x := m.exp(7)
		s, e := read.PrintExp(x)
		printed(t, x, s, e, read.Exp)
	}
}
