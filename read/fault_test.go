package read_test

import (
	"math/rand"
	"strings"
	"testing"

	"cabotage/api"
	"cabotage/read"
)

// P2.2
func TestFault(t *testing.T) {
	for _, x := range []struct {
		s    string
		at   int
		text string
	}{
		{"x( 1 | 2)", 5, "|"}, {"go 5", 3, "5"}, {"x() $", 4, "$"}, {"def x() = 0", 11, ""}, {"1", 0, "1"},
		// The end, with its blanks.
		{"", 0, ""}, {" \n", 2, ""}, {"// 0", 4, ""}, {"x", 1, ""}, {"x(  ", 4, ""}, {"if 1 then 0 // else 0\n", 22, ""}, {"0 |", 3, ""}, {"(0", 2, ""}, {"def", 3, ""}, {"def place p { in 0", 18, ""},
		// A byte that is in no token, behind a beginning only.
		{"$", 0, "$"}, {"\xff", 0, "\xff"}, {"é", 0, "\xc3"}, {"0 \r", 2, "\r"}, {"x() abcdefghi", 4, "a"}, {"go abcdefghi", 3, "a"}, {"x(07)", 2, "0"}, {"x 07", 2, "0"}, {"x(~0)", 2, "~"}, {"x(1/2)", 3, "/"}, {"x() y() $", 4, "y"}, {"0 0 $", 2, "0"}, {"; $", 0, ";"}, {"x(\x00", 2, "\x00"},
		// Processes.
		{"0 0", 2, "0"}, {"0)", 1, ")"}, {"()", 1, ")"}, {"stop()", 4, "("}, {"0 | 1", 4, "1"}, {"0 | | 0", 4, "|"}, {"~1", 0, "~1"}, {"x() y()", 4, "y"}, {"x; 0", 1, ";"}, {"go a 0", 5, "0"}, {"go a; ;", 6, ";"}, {"watch in", 6, "in"}, {"go (a); 0", 3, "("}, {"and", 0, "and"}, {"place p { in 0 }", 0, "place"}, {"x() & y() = 0", 4, "&"}, {"x() = 0", 4, "="}, {"if 1 else", 5, "else"}, {"if 1 then 0 else else", 17, "else"}, {"if then", 3, "then"}, {"if stop then", 3, "stop"}, {"if 0 then 0 and", 12, "and"}, {"{0}", 0, "{"}, {"(0) (0)", 4, "("}, {"(0)()", 3, "("}, {"go a; 0; 0", 7, ";"},
		// Arguments and expressions.
		{"x(,)", 2, ","}, {"x(1,)", 4, ")"}, {"x(1 2)", 4, "2"}, {"x(1 < 2 < 3)", 8, "<"}, {"x(1 == 2 < 3)", 9, "<"}, {"x(1 < 2 == 3)", 8, "=="}, {"x(1 = 2)", 4, "="}, {"x(a())", 3, "("}, {"x(-1)", 2, "-"}, {"x(1 + )", 6, ")"}, {"x(1 + * 2)", 6, "*"}, {"x(())", 3, ")"}, {"x(stop)", 2, "stop"}, {"x((1, 2))", 4, ","}, {"x(1 & 2)", 4, "&"}, {"x((1)", 5, ""},
		// Definitions.
		{"def in 0", 4, "in"}, {"def 0", 4, "0"}, {"def x = 0", 6, "="}, {"def x(1) = 0 in 0", 6, "1"}, {"def x(a + b) = 0 in 0", 8, "+"}, {"def x((a)) = 0 in 0", 6, "("}, {"def x(a,) = 0 in 0", 8, ")"}, {"def x(in) = 0", 6, "in"}, {"def x() in 0", 8, "in"}, {"def x() == 0", 8, "=="}, {"def x() & = 0", 10, "="}, {"def x() & place p", 10, "place"}, {"def x() = 0 and in", 16, "in"}, {"def x() = 0 & y() = 0", 12, "&"}, {"def x() = 0 in 0 and y() = 0", 17, "and"}, {"def x() = 0 in 0 in 0", 17, "in"},
		{"def place { in 0 }", 10, "{"}, {"def place p in 0", 12, "in"}, {"def place p { }", 14, "}"}, {"def place p { 0 }", 14, "0"}, {"def place p { x() in 0 }", 18, "in"}, {"def place p { x() = 0 }", 22, "}"}, {"def place p { in 0 in 0", 19, "in"}, {"def place p { in 0 and x() = 0 }", 19, "and"}, {"def place p { in } in 0", 17, "}"}, {"def place p { in 0 } & x() = 0", 21, "&"}, {"def place p() { in 0 }", 11, "("}, {"def place p { and in 0 }", 14, "and"},
	} {
		want := api.ReadFault{At: x.at, Line: 1 + strings.Count(x.s[:x.at], "\n"), Text: x.text}
		if f, e := read.Fault(x.s); f != want || e != api.OK {
			t.Errorf("%q: %v %d, not %v", x.s, f, e, want)
		}
	}
	if f, e := read.Fault("x(1)\n| y(1 // 2)\n,\n= 3)"); f != (api.ReadFault{At: 19, Line: 4, Text: "="}) || e != api.OK {
		t.Error(f, e)
	}
}

// derivable are sources that can be derived; not all of them say something that is formed.
func derivable() []string {
	return []string{"0", "stop", "x()", example, "stop | 0 // b", "x(1000000001)", "x(1, 2, 3, 4)", "def x() = 0 and x(a) = 0 in 0", "def x(a, a) = 0 in 0", "go a; if 1 then 0 else x() | 0", "(((0)))", "x(((1)))", "def x() = def y() = 0 and z() = 0 in 0 and w() = 0 in 0", "def x() & y() & z() & w() = 0 in 0", "if 1 then if 2 then 0 else stop else go p; watch q; 0 | 0", "def place p { in 0 } in 0", "def place p { place p { in 0 } in 0 } and x() = 0 in 0", "x(1 + 2 * (3 < ~4) - a == b)"}
}

// P2.2: none, and the order of the errors.
func TestFaultRefused(t *testing.T) {
	for _, s := range derivable() {
		if f, e := read.Fault(s); f != (api.ReadFault{}) || e != api.ErrNone {
			t.Errorf("%q: %v %d", s, f, e)
		}
		if r, e := read.Rest(s); r != "" || e != api.OK {
			t.Errorf("%q: %q %d", s, r, e)
		}
	}
	for _, s := range []string{strings.Repeat(" ", 6001), "0" + strings.Repeat(" ", 6000), "$" + strings.Repeat(" ", 6000), strings.Repeat("(", 6001)} {
		if f, e := read.Fault(s); f != (api.ReadFault{}) || e != api.ErrLong {
			t.Errorf("%d bytes: %v %d", len(s), f, e)
		}
		if r, e := read.Rest(s); r != "" || e != api.ErrLong {
			t.Errorf("%d bytes: %q %d", len(s), r, e)
		}
	}
	if f, e := read.Fault("0" + strings.Repeat(" ", 5999)); f != (api.ReadFault{}) || e != api.ErrNone {
		t.Error(f, e)
	}
}

// P2.2
func TestRest(t *testing.T) {
	for s, want := range map[string]string{
		"def x( ": ") = 0 in 0", "if": "0 then 0 else 0", "": "0", "// 0": "0", "x(1 < ": "0 )", "go": "a ; 0", "watch": "a ; 0", "watch a": "; 0", "go a;": "0",
		"def": "a ( ) = 0 in 0", "def x": "( ) = 0 in 0", "def x(a": ") = 0 in 0", "def x(a,": "a ) = 0 in 0", "def x()": "= 0 in 0", "def x() &": "a ( ) = 0 in 0", "def x() =": "0 in 0", "def x() = 0": "in 0", "def x() = 0 and": "a ( ) = 0 in 0", "def x() = 0 in": "0",
		"def place": "a { in 0 } in 0", "def place p": "{ in 0 } in 0", "def place p {": "in 0 } in 0", "def place p { in": "0 } in 0", "def place p { in 0": "} in 0", "def place p { in 0 }": "in 0", "def place p { x() = 0": "in 0 } in 0", "def place p { place": "a { in 0 } in 0 } in 0", "def place p { x() = 0 and": "a ( ) = 0 in 0 } in 0",
		"x": "( )", "x(": ")", "x(1": ")", "x(1,": "0 )", "x((": "0 ) )", "x((1 + 2": ") )", "x(1 *": "0 )", "x(a ==": "0 )", "x(1 -": "0 )", "x() |": "0", "0 | (": "0 )", "(go a; (": "0 ) )", "stop |": "0",
		"if 1": "then 0 else 0", "if a then": "0 else 0", "if 1 then 0": "else 0", "if 1 then 0 else": "0", "if 1 then if 2 then 0": "else 0 else 0", "def x() = if 1 then (0": ") else 0 in 0", "def x() = def y(": ") = 0 in 0 in 0", "if (1 <": "0 ) then 0 else 0",
	} {
		if r, e := read.Rest(s); r != want || e != api.OK {
			t.Errorf("%q: %q %d, not %q", s, r, e, want)
		}
	}
	for _, s := range []string{"x)", "0 0", "0 $", "$", "def x() = 0 in $", "x(1 < 2 <", "def place p { 0", "1", "abcdefghi", "x(07", "0 0 $"} {
		if r, e := read.Rest(s); r != "" || e != api.ErrText {
			t.Errorf("%q: %q %d", s, r, e)
		}
	}
}

// P2.2: parts within parts as deep as a source is long.
func TestDeep(t *testing.T) {
	for _, x := range []struct {
		first, part string
		many        int
		rest, more  string
	}{
		{"", "(", 6000, "0", " )"}, {"x", "(", 5999, "0", " )"}, {"", "go a;", 1200, "0", ""}, {"", "if 1 then ", 600, "0", " else 0"}, {"", "def x()=", 750, "0", " in 0"}, {"def ", "place p{", 749, "in 0 }", " in 0 }"},
	} {
		s := x.first + strings.Repeat(x.part, x.many)
		want := x.rest + strings.Repeat(x.more, x.many)
		if strings.HasPrefix(s, "def place") {
			want = strings.TrimSuffix(want, " }")
		}
		if f, e := read.Fault(s); f != (api.ReadFault{At: len(s), Line: 1}) || e != api.OK {
			t.Errorf("%.20s: %v %d", s, f, e)
		}
		if r, e := read.Rest(s); e != api.OK || r != want {
			t.Errorf("%.20s: %.80s %d", s, r, e)
		}
	}
}

// fault returns the fault of a source by the grammar; ok is false if it can be derived.
func fault(s string) (f api.ReadFault, ok bool) {
	c := cut(s)
	r := from("Process")
	at, text := len(s), ""
	if c.bad >= 0 {
		at, text = c.bad, s[c.bad:c.bad+1]
	}
	for i, k := range c.texts {
		if r = r.with(k); !r.beginning() {
			return api.ReadFault{At: c.at[i], Line: 1 + strings.Count(s[:c.at[i]], "\n"), Text: k}, true
		}
	}
	if c.bad < 0 && r.derived("Process") {
		return api.ReadFault{}, false
	}
	return api.ReadFault{At: at, Line: 1 + strings.Count(s[:at], "\n"), Text: text}, true
}

// check holds the fault of a source, and its rest, against the grammar.
func check(t *testing.T, s string) (derived bool) {
	f, e := read.Fault(s)
	r, g := read.Rest(s)
	want, is := fault(s)
	if !is {
		if f != (api.ReadFault{}) || e != api.ErrNone || r != "" || g != api.OK {
			t.Errorf("%q: %v %d, %q %d", s, f, e, r, g)
		}
		return true
	}
	if f != want || e != api.OK {
		t.Errorf("%q: %v %d, not %v", s, f, e, want)
	}
	if atEnd := want.At == len(s); atEnd != (g == api.OK) || g != api.OK && (r != "" || g != api.ErrText) {
		t.Errorf("%q: %q %d", s, r, g)
	}
	// What stands in front of the fault goes on; with its token nothing does.
	before := s[:want.At]
	r, e = read.Rest(before)
	if e != api.OK {
		t.Errorf("%q: %q %d", before, r, e)
	}
	if _, is := fault(before + "\n" + r); is {
		t.Errorf("%q does not go on with %q", before, r)
	}
	if _, e := read.Fault(before + "\n" + r); e != api.ErrNone {
		t.Errorf("%q does not go on with %q: %d", before, r, e)
	}
	if c := cut(s); want.Text != "" && want.At != c.bad {
		if r, e := read.Rest(before + want.Text); r != "" || e != api.ErrText {
			t.Errorf("%q%q: %q %d", before, want.Text, r, e)
		}
	}
	return false
}

// P2.2: the same as the grammar says.
func TestFaultMade(t *testing.T) {
	derived, all := 0, 0
	formedOnes(t, 1500, func(m *rand.Rand, u api.Term) {
		s := strings.Join(spoilt(m, u), []string{" ", "\n", " // a\n"}[m.Intn(3)])
		if m.Intn(8) == 0 {
			s += " " + notTokens()[m.Intn(4)]
		}
		all++
		if check(t, s) {
			derived++
		}
	})
	if derived < all/10 || derived > all/2 {
		t.Error(derived, "of", all)
	}
	m := rand.New(rand.NewSource(4))
	for range 3000 {
		check(t, random(m))
	}
}

// P2.2: no other row of tokens is shorter, or has 0 first.
func TestRestMade(t *testing.T) {
	many := map[int]int{}
	formedOnes(t, 400, func(m *rand.Rand, u api.Term) {
		s, _ := source(m, u, true)
		l := cut(s).texts
		r := from("Process")
		for i := range 1 + m.Intn(min(len(l), 30)) {
			r = r.with(l[i])
		}
		before := strings.Join(l[:len(r)-1], " ")
		got, e := read.Rest(before)
		if e != api.OK {
			t.Fatalf("%q: %d", before, e)
		}
		n := len(strings.Fields(got))
		many[n]++
		if n > 4 {
			return
		}
		if want := strings.Join(best(rests(r)), " "); got != want {
			t.Errorf("%q: %q, not %q", before, got, want)
		}
	})
	for n := range 5 {
		if many[n] == 0 {
			t.Error("no rest of so many tokens:", n)
		}
	}
}
