package read_test

import (
	"math/rand"
	"slices"
	"strings"
	"testing"

	"cabotage/api"
	"cabotage/read"
	"cabotage/term"
)

// P2.4
func TestParse(t *testing.T) {
	a, b, c, one := send("a"), send("b"), send("c"), num(1)
	for _, x := range []struct {
		s    string
		want api.Term
	}{
		{example, exampleTerm()}, {"0", zero()}, {"stop", stop()}, {"(0)", zero()}, {" ( ( stop ) ) // a", stop()},
		{"a()", a}, {"a(1)", send("a", one)}, {"a(b, ~7, 0)", send("a", name("b"), num(-7), num(0))}, {"abcdefgh()", send("abcdefgh")},
		{"a() | b() | c()", par(a, par(b, c))}, {"(a() | b()) | c()", par(par(a, b), c)}, {"a() | (b() | c())", par(a, par(b, c))}, {"(a()) | 0", par(a, zero())},
		{"go p; a() | b()", toward(api.TermGo, "p", par(a, b))}, {"(go p; a()) | b()", par(toward(api.TermGo, "p", a), b)}, {"watch p; stop", toward(api.TermWatch, "p", stop())}, {"a() | go p; b() | c()", par(a, toward(api.TermGo, "p", par(b, c)))}, {"watch p; go q; 0", toward(api.TermWatch, "p", toward(api.TermGo, "q", zero()))},
		{"if 1 then a() else b() | c()", choose(one, a, par(b, c))}, {"if 1 then a() | b() else c()", choose(one, par(a, b), c)}, {"(if 1 then a() else b()) | c()", par(choose(one, a, b), c)}, {"if 1 < a then if 1 then a() else b() else c()", choose(two(api.TermLess, one, name("a")), choose(one, a, b), c)}, {"if (1) then 0 else 0", choose(one, zero(), zero())}, {"if 1 then a() else if 1 then b() else c()", choose(one, a, choose(one, b, c))},
		{"def x() = 0 in a() | b()", define(par(a, b), rule(zero(), msg("x")))}, {"def x() = a() | b() in 0", define(zero(), rule(par(a, b), msg("x")))}, {"(def x() = 0 in a()) | b()", par(define(a, rule(zero(), msg("x"))), b)},
		{"def x() & y(u, v) & z(w) = 0 and t() = stop in 0", define(zero(), rule(zero(), msg("x"), msg("y", "u", "v"), msg("z", "w")), rule(stop(), msg("t")))},
		{"def x() = def y() = 0 and z() = 0 in 0 and w() = 0 in 0", define(zero(), rule(define(zero(), rule(zero(), msg("y")), rule(zero(), msg("z"))), msg("x")), rule(zero(), msg("w")))},
		{"def x() = go p; 0 | a() and y() = if 1 then 0 else 0 | b() in 0", define(zero(), rule(toward(api.TermGo, "p", par(zero(), a)), msg("x")), rule(choose(one, zero(), par(zero(), b)), msg("y")))},
		{"def place p { in 0 } in 0", define(zero(), place("p", zero()))}, {"def place p { in a() | b() } and x() = 0 in c()", define(c, place("p", par(a, b)), rule(zero(), msg("x")))},
		{"def place p { x() = 0 and place q { y() = 0 in stop } in a() } in 0", define(zero(), place("p", a, rule(zero(), msg("x")), place("q", stop(), rule(zero(), msg("y")))))},
	} {
		u, e := read.Parse(x.s)
		if e != api.OK || !same(u, x.want) {
			t.Errorf("%s: %v %d", x.s, u, e)
		}
	}
}

// refusals are sources with the error of reading them.
func refusals() map[string]api.Errno {
	deep := strings.Repeat("go a; ", 11) + "0"
	wide := strings.Repeat("0 | ", 6) + "0"
	many := "(" + strings.Repeat(wide+") | (", 3) + wide + ") | 0 | 0"
	long := "0" + strings.Repeat(" ", 5999)
	m := map[string]api.Errno{
		long: api.OK, long + " ": api.ErrLong, strings.Repeat("$", 6001): api.ErrLong, strings.Repeat(" ", 6001): api.ErrLong, "a(1000000001)" + strings.Repeat(" ", 6000): api.ErrLong,
		"": api.ErrText, "$": api.ErrText, "0 $": api.ErrText, "0 0": api.ErrText, "x": api.ErrText, "a(1000000001) $": api.ErrText, "a(1000000001) 0": api.ErrText, "a(1, 2, 3, 4": api.ErrText, "def x(a, a) = 0": api.ErrText, "1": api.ErrText, "a < b": api.ErrText, "0)": api.ErrText,
		deep: api.OK, "go a; " + deep: api.ErrArg, many: api.OK, many + " | 0": api.ErrArg, "(((((((((((((0)))))))))))))": api.OK,
		"a(1000000000)": api.OK, "a(1000000001)": api.ErrArg, "a(~1000000000)": api.OK, "a(~1000000001)": api.ErrArg, "a(9999999999)": api.ErrArg, "a(~9999999999)": api.ErrArg,
		"a(1, 2, 3)": api.OK, "a(1, 2, 3, 4)": api.ErrArg, "def x(a, b, c) = 0 in 0": api.OK, "def x(a, b, c, d) = 0 in 0": api.ErrArg, "def x() & y() & z() = 0 in 0": api.OK, "def x() & y() & z() & w() = 0 in 0": api.ErrArg,
		"def x(a, a) = 0 in 0": api.ErrArg, "def x(a) & y(a) = 0 in 0": api.ErrArg, "def x() & x() = 0 in 0": api.ErrArg, "def x(a) = 0 and x() = 0 in 0": api.ErrArg, "def x() = 0 and place x { in 0 } in 0": api.ErrArg, "def place p { x() = 0 in 0 } and x() = 0 in 0": api.ErrArg,
		"def a() = 0 and b() = 0 and c() = 0 and d() = 0 and e() = 0 in 0": api.OK, "def a() = 0 and b() = 0 and c() = 0 and d() = 0 and e() = 0 and f() = 0 in 0": api.ErrArg,
		strings.Repeat("0|", 2999) + "0": api.ErrArg, "x(" + strings.Repeat("1+", 2990) + "1)": api.ErrArg, strings.Repeat("(", 2999) + "0" + strings.Repeat(")", 2999): api.OK, "x(" + strings.Repeat("(", 2990) + "0" + strings.Repeat(")", 2991): api.OK, strings.Repeat("(", 6000): api.ErrText,
	}
	for _, s := range notTokens() {
		m[s] = api.ErrText
	}
	return m
}

// P2.4: the errors, in their order.
func TestParseRefused(t *testing.T) {
	for s, want := range refusals() {
		u, e := read.Parse(s)
		l, f := read.Spots(s)
		if e != want || f != want {
			t.Errorf("%.60q: %d %d, not %d", s, e, f, want)
		}
		if e != api.OK && (!same(u, api.Term{}) || len(l) > 0) {
			t.Errorf("%.60q: %v %v", s, u, l)
		}
	}
}

// P2.4
func TestSpots(t *testing.T) {
	for s, want := range map[string][][2]int{
		example: {{0, 82}, {4, 24}, {17, 24}, {19, 20}, {22, 23}, {37, 62}, {50, 60}, {56, 60}, {58, 59}, {66, 82}, {66, 69}, {72, 82}, {81, 82}},
		"0":     {{0, 1}}, " stop // a": {{1, 5}}, "(0)": {{1, 2}}, "( (x( ) ))": {{3, 7}}, "x(1,\na)": {{0, 7}, {2, 3}, {5, 6}},
		"(0) | 0": {{0, 7}, {1, 2}, {6, 7}}, "0 | (0)": {{0, 7}, {0, 1}, {5, 6}}, "((0) | (0))": {{1, 10}, {2, 3}, {8, 9}}, "((0 | 0)) | 0": {{0, 13}, {2, 7}, {2, 3}, {6, 7}, {12, 13}}, "0|0|0": {{0, 5}, {0, 1}, {2, 5}, {2, 3}, {4, 5}},
		"go p; (0) // a": {{0, 9}, {7, 8}}, "if (1) then (0) else (stop)": {{0, 27}, {4, 5}, {13, 14}, {22, 26}}, "def x() = (0) in (0)": {{0, 20}, {4, 13}, {11, 12}, {18, 19}}, "def place p { in (0) } in 0": {{0, 27}, {4, 22}, {18, 19}, {26, 27}},
		"x(1+(2))": {{0, 8}, {2, 7}, {2, 3}, {5, 6}}, "x(((1)+2)*3)": {{0, 12}, {2, 11}, {3, 8}, {4, 5}, {7, 8}, {10, 11}}, "x(1-2-3)": {{0, 8}, {2, 7}, {2, 5}, {2, 3}, {4, 5}, {6, 7}}, "x(1<2*3)": {{0, 8}, {2, 7}, {2, 3}, {4, 7}, {4, 5}, {6, 7}},
	} {
		if l, e := read.Spots(s); !slices.Equal(fromTo(l), want) || e != api.OK {
			t.Errorf("%q: %v %d", s, l, e)
		}
	}
	l, _ := read.Spots("0 | 0")
	l[0].To = 77
	if m, _ := read.Spots("0 | 0"); !slices.Equal(fromTo(m), [][2]int{{0, 5}, {0, 1}, {4, 5}}) {
		t.Error(m)
	}
}

func fromTo(l []api.ReadSpot) [][2]int {
	var out [][2]int
	for _, x := range l {
		out = append(out, [2]int{x.From, x.To})
	}
	return out
}

// piece holds a piece of a source against the node that it is, read alone.
func piece(t *testing.T, s string, node any) {
	var got any
	var e api.Errno
	switch n := node.(type) {
	case api.Term:
		got, e = read.Parse(s)
	case api.TermExp:
		got, e = read.Exp(s)
	case api.TermClause:
		var u api.Term
		u, e = read.Parse("def " + s + " in 0")
		got, node = u, define(zero(), n)
	}
	if e != api.OK || !same(got, node) {
		t.Errorf("%q: %v %d, not %v", s, got, e, node)
	}
}

// P2.4: what was written is read, its nodes are where they were written, and alone each of them says the same.
func TestParseMade(t *testing.T) {
	formedOnes(t, 1500, func(m *rand.Rand, u api.Term) {
		s, want := source(m, u, true)
		v, e := read.Parse(s)
		if e != api.OK || !same(u, v) {
			t.Fatalf("%q: %v %d, not %v", s, v, e, u)
		}
		l, e := read.Spots(s)
		if e != api.OK || !slices.Equal(l, want) {
			t.Fatalf("%q: %v %d, not %v", s, l, e, want)
		}
		all := nodes(u)
		if n, _ := term.Nodes(u); n != len(l) || n != len(all) {
			t.Fatal(n, len(l), len(all))
		}
		for i, x := range l {
			piece(t, s[x.From:x.To], all[i])
		}
	})
}

// P2.4
func TestExp(t *testing.T) {
	one, a := num(1), name("a")
	add := func(x, y api.TermExp) api.TermExp { return two(api.TermAdd, x, y) }
	sub := func(x, y api.TermExp) api.TermExp { return two(api.TermSub, x, y) }
	mul := func(x, y api.TermExp) api.TermExp { return two(api.TermMul, x, y) }
	less := func(x, y api.TermExp) api.TermExp { return two(api.TermLess, x, y) }
	equal := func(x, y api.TermExp) api.TermExp { return two(api.TermSame, x, y) }
	for _, x := range []struct {
		s    string
		want api.TermExp
	}{
		{"1 - 2 - 3 * 4 == ~5", equal(sub(sub(one, num(2)), mul(num(3), num(4))), num(-5))},
		{"0", num(0)}, {"1", one}, {"~1", num(-1)}, {"a", a}, {"((a))", a}, {"1000000000", num(1000000000)}, {"~1000000000 // a", num(-1000000000)},
		{"a+1-a+1", add(sub(add(a, one), a), one)}, {"a-(1-a)", sub(a, sub(one, a))}, {"a+(1+a)", add(a, add(one, a))}, {"a*1*a", mul(mul(a, one), a)}, {"a*(1*a)", mul(a, mul(one, a))},
		{"a+1*a", add(a, mul(one, a))}, {"a*1+a", add(mul(a, one), a)}, {"(a+1)*a", mul(add(a, one), a)}, {"a<1+a", less(a, add(one, a))}, {"a+1==a*1", equal(add(a, one), mul(a, one))}, {"(a<1)==a", equal(less(a, one), a)}, {"a<(1==a)", less(a, equal(one, a))}, {"(a==1)+1", add(equal(a, one), one)}, {"a*(a<1)", mul(a, less(a, one))},
	} {
		y, e := read.Exp(x.s)
		if e != api.OK || !same(y, x.want) {
			t.Errorf("%q: %v %d", x.s, y, e)
		}
	}
	thirty := "1" + strings.Repeat("*1", 11)
	full := thirty + "+(" + thirty + "+(1" + strings.Repeat("*1", 5) + "))"
	for s, want := range map[string]api.Errno{
		"": api.ErrText, "1 < 2 < 3": api.ErrText, "1 == 2 == 3": api.ErrText, "1 < 2 == 3": api.ErrText, "x()": api.ErrText, "1 2": api.ErrText, "(1": api.ErrText, "1)": api.ErrText, "-1": api.ErrText, "1 +": api.ErrText, "1 = 2": api.ErrText, "stop": api.ErrText, "0 | 0": api.ErrText, "1 $": api.ErrText, "07": api.ErrText, "1, 2": api.ErrText, "()": api.ErrText,
		"1000000001": api.ErrArg, "~1000000001": api.ErrArg, "9999999999": api.ErrArg, "1000000001 $": api.ErrText, "1000000001 1": api.ErrText, "1" + strings.Repeat(" ", 6000): api.ErrLong, "$" + strings.Repeat(" ", 6000): api.ErrLong, "1" + strings.Repeat(" ", 5999): api.OK,
		thirty: api.OK, thirty + "*1": api.ErrArg, strings.Replace(full, "+(", "<(", 1): api.ErrArg, strings.Repeat("(", 2999) + "0" + strings.Repeat(")", 2999): api.OK, strings.Repeat("1+", 2999) + "1": api.ErrArg,
	} {
		if y, e := read.Exp(s); e != want || e != api.OK && !same(y, api.TermExp{}) {
			t.Errorf("%.60q: %v %d, not %d", s, y, e, want)
		}
	}
}
