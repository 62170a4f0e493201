package infer_test

import (
	"slices"
	"strings"
	"testing"

	"cabotage/api"
	"cabotage/infer"
	"cabotage/term"
)

// P4.2
func TestInfer(t *testing.T) {
	for _, x := range []struct{ s, want string }{
		{procB, "chan(int), chan(chan(int)); chan(0, chan(0)): 0"},
		{procC, "chan(int); chan(chan(int)), chan(int)"},
		{procD, "0; chan(1): 1, chan(2): 2"},
		{"0", ""}, {"stop", ""},
		// free names, sorted; variables in the order in which they stand there
		{"f(a)", "0, chan(0)"}, {"a(f)", "chan(0), 0"}, {"b(c, a) | d(a)", "0, chan(1, 0), 1, chan(0)"}, {"z(y) | y(x) | x(w)", "0, chan(0), chan(chan(0)), chan(chan(chan(0)))"},
		{"x() | go p; watch q; y(p, q, 1)", "place, place, chan(), chan(place, place, int)"}, {"if a == b then c(a) else b()", "chan(), chan(), chan(chan())"}, {"if a then b(a) else 0", "int, chan(int)"}, {"x(a < b, a - b, c == d)", "int, int, 0, 0, chan(int, int, int)"},
		// TermDefs in the order of parts, their channels as they first stand
		{"(def x(a) = 0 in 0) | def y() = def z(a, b) = 0 in 0 in def w(a) = a() in 0", "; chan(0): 0; chan(); chan(1, 2): 1 2; chan(chan())"},
		{"def place p { y(a) = 0 and place q { z() = 0 in 0 } in 0 } and x(a, b) & w() = go a; 0 and w() = 0 in 0", "; chan(place, 0): 0, chan(), chan(1): 1, chan()"},
		{"def place p { in 0 } in go p; 0", "; "}, {"def place p { in 0 } in x(p)", "chan(place); "},
		// in the Kid each time another type, in the Defs one
		{"def x(a) = 0 in x(1) | x(p) | x(q) | go p; q(x)", "place, chan(chan(0)); chan(1): 1"}, {"def x(a) = x(a) in x(1) | x(x)", "; chan(0): 0"}, {"def x(a) = x(1) in x(2)", "; chan(int)"},
		{"def x(a, k) = k(a) and y(b) = x(b, y) in x(1, u) | x(v, w) | go v; y(1) | y(v)", "chan(int), place, chan(place); chan(0, chan(0)): 0, chan(1): 1"},
		{"def place p { x(a) = 0 in x(1) } in x(2)", "; chan(int)"}, {"def x(a) = 0 and place p { in x(q) } in x(r) | x(q)", "0, 0; chan(0)"},
		// two channels of one rule: what they have in common is one type
		{"def x(a) & y(b) = z(a, b) in x(1) | x(2) | y(3) | go p; y(q)", "place, int, chan(int, int); chan(int), chan(int)"}, {"def x(a) & y(b) = if a == b then 0 else 0 in x(p) | y(q)", "0, 0; chan(0), chan(0)"},
		{"def x(a, c) & y(b, d) = if a == b then 0 else 0 in x(1, 1) | x(1, p) | y(1, q) | y(2, 2) | go p; go q; 0", "place, place; chan(int, 0): 0, chan(int, 1): 1"},
		// the same channel in many rules, and a variable of two channels that are in no rule together: it counts twice
		{"def x(a) = y(a) and y(b) = 0 in x(1) | x(p) | y(2) | y(p) | go p; 0", "place; chan(0): 0, chan(1): 1"}, {"def x(a) = y(a) and y(b) = 0 and x(c) & z() = 0 in x(1) | x(p) | go p; 0", "place; chan(0): 0, chan(1): 1, chan()"},
		{"def x(a) = y(a) and y(b) = 0 and x(c) & y(d) = 0 in x(p) | y(q)", "0, 0; chan(0), chan(0)"}, {"def x(a) & u() = y(a) and y(b) & u() = 0 in x(1) | y(p) | go p; 0", "place; chan(0): 0, chan(), chan(1): 1"},
		// by way of a third one
		{"def x(a) & z() = w(a) and w(b) & v(c) = if b == c then 0 else 0 in x(p) | v(q) | w(1)", "int, int; chan(int), chan(), chan(int), chan(int)"},
		// rules of places count, those of TermDefs within do not
		{"def place p { place q { x(a) & y(b) = if a == b then 0 else 0 in 0 } in 0 } in x(u) | y(v)", "0, 0; chan(0), chan(0)"}, {"def x(a) = def y(b) & z(c) = 0 in y(a) | z(a) in x(1) | x(p) | go p; 0", "place; chan(0): 0; chan(1): 1, chan(2): 2"},
		// what stays around: free names, names of rules, channels around
		{"def x(a) = f(a) in 0", "chan(0); chan(0)"}, {"def x(a) = f(a) in x(1)", "chan(int); chan(int)"}, {"def x(a) = def y(b) = a(b) in y(1) in 0", "; chan(chan(int)); chan(int)"}, {"def x(a) = def y(b) = x(b) in y(1) | y(2) in x(3) | x(p)", "int; chan(int); chan(int)"},
		{"def x(u) = def y(b) = if u == b then 0 else 0 in y(u) in x(1) | x(p) | go p; 0", "place; chan(0): 0; chan(1)"}, {"def x(u) = def y(b) = if u == b then 0 else 0 and z(c) = y(c) in def w(d) = z(d) in 0 in 0", "; chan(0): 0; chan(1), chan(1); chan(1)"},
		// in the Kid of a TermDef what is general for it does not stay around
		{"def x(a) = 0 in def y(b) = x(b) in y(1) | y(p) | go p; 0", "place; chan(0): 0; chan(1): 1"}, {"def x(a) & y(b) = z(a, b) in def w(c) = x(c) in 0", "chan(0, 1); chan(0), chan(1); chan(0)"}, {"def x(a) & y(b) = if a == b then 0 else 0 in def w(c) = x(c) in w(1)", "; chan(int), chan(int); chan(int)"}, {"def x(a) & y(b) = if a == b then 0 else 0 in def w(c) = x(c) in 0", "; chan(0), chan(0); chan(0)"},
		// the same name bound again is another one; the one around stays around all the same
		{"def x(x) = x(1) in x(y) | x(z)", "chan(int), chan(int); chan(chan(int))"}, {"x(1) | def x(a, b) = 0 in x(1, x)", "chan(int); chan(0, 1): 0 1"}, {"def x(a) = def y(b) = if a == b then 0 else 0 in def a(c) = y(c) in 0 in 0", "; chan(0): 0; chan(1); chan(1)"},
		{"def p() = def place p { in go p; 0 } in watch p; 0 in p()", "; chan(); "},
		// what is met later makes nothing general
		{"def x(a) = f(a) in x(1) | x(2)", "chan(int); chan(int)"}, {"def x(a) = f(a) in f(g) | g(h)", "chan(chan(0)), chan(0), 0; chan(chan(0))"}, {"def x(a) & y(b) = if a == b then 0 else 0 in x(g) | g(h)", "chan(0), 0; chan(chan(0)), chan(chan(0))"},
		// what stands ahead counts already
		{"f(1) | def x(a) = f(a) in x(2)", "chan(int); chan(int)"}, {"g(f) | f(h) | def x(a) & y(b) = g(a) in x(f)", "chan(0), chan(chan(0)), 0; chan(chan(0)), chan(1): 1"},
	} {
		if y, e := infer.Infer(process(x.s)); e != api.OK || showTyping(y) != strings.TrimSpace(x.want) {
			t.Errorf("%s: %s %d, not %s", x.s, showTyping(y), e, x.want)
		}
	}
}

// P4.2: what does not type.
func TestInferWrong(t *testing.T) {
	for _, s := range []string{
		procA, procC + " | cell(out)", "x(x)", "x(y) | y(x)", "x(y, z) | y(z) | z(x)", "def x(a) = a(a) in 0", "def x() = x(x) in 0", "def x(a) = 0 in x(1, 2)", "def x(a) = 0 in x()",
		"def x(a) = x(1) | x(p) | go p; 0 in 0", "def x(a) = 0 and place p { in x(1) | x(p) } in 0", "def place p { x(a) = 0 and y() = x(p) in x(1) } in 0", "def x(a) = go x; 0 in 0", "def x(a) = 0 in go x; 0", "def x(a) = 0 in watch x; 0", "def x(a) = 0 in if x then 0 else 0", "def x(a) = 0 in y(x + 1)",
		"def place p { in 0 } in p()", "def place p { in 0 } in p(1)", "def place p { in 0 } in x(p + 1)", "def place p { in if p then 0 else 0 } in 0",
		"def x(a) & y(b) = if a == b then 0 else 0 in x(1) | y(p) | go p; 0", "def x(a) = f(a) in x(1) | x(p) | go p; 0", "def x(a) = (def y(b) = a(b) in y(1) | y(p) | go p; 0) in 0",
		"def x(a) = (def y(b) = if a == b then 0 else 0 in y(1) | y(p) | go p; 0) in 0", "def x(a) = (def y(b) = x(b) in y(1) | y(p) | go p; 0) in 0", "def x(a) & y(b) = if a == b then 0 else 0 in def w(c) = x(c) in w(1) | w(p) | go p; 0",
		"def x(a) & z() = w(a) and w(b) & v(c) = if b == c then 0 else 0 in x(1) | x(p) | go p; 0", "def place p { x(a) & y(b) = if a == b then 0 else 0 in 0 } in x(1) | x(p)",
		// a channel is within itself by way of what is equal
		"if f == g then def x(a) = if a == f then 0 else 0 in g(x) else 0", "if x == y then x(z) | if z == y then 0 else 0 else 0",
		// what does not type, and would be too long
		large + " | x(x)", "a(1, 1, 1) | b(a, a, a) | c(b, b, b) | d(c, c, c) | e(d, d, d) | e()",
	} {
		if y, e := infer.Infer(process(s)); e != api.ErrRule || showTyping(y) != "" {
			t.Error(s, showTyping(y), e)
		}
	}
	for i, u := range unformed() {
		if y, e := infer.Infer(u); e != api.ErrArg || showTyping(y) != "" {
			t.Error(i, showTyping(y), e)
		}
	}
}

// P4.2: the largest types, of 200 nodes, and larger ones.
func TestInferLong(t *testing.T) {
	const parts = "a() | b(a, a, a) | c(b, b, b) | d(c, c, c) | e(d, d, d) | f(b, b, x) | g(c, c, f) | h(e, d, g) | "
	for _, x := range []struct {
		s    string
		want api.Errno
		most int
	}{
		{parts + "x(1)", api.OK, 200}, {parts + "x(a)", api.OK, 200}, {parts + "x(1, 2)", api.ErrLong, 0}, {parts + "x(b)", api.ErrLong, 0}, {large, api.ErrLong, 0}, {"0 | " + large, api.ErrLong, 0},
		{"a(1, 1, 1) | b(a, a, a) | c(b, b, b) | d(c, c, c)", api.OK, 121}, {"a(1, 1, 1) | b(a, a, a) | c(b, b, b) | d(c, c, c) | e(d, d, d)", api.ErrLong, 0},
	} {
		y, e := infer.Infer(process(x.s))
		most := 0
		for _, f := range y.Free {
			most = max(most, nodes(f))
		}
		if e != x.want || most != x.most {
			t.Error(x.s, e, most)
		}
	}
}

// P4.1 to P4.4: types that have more nodes than memory could hold, if they were written.
func TestGreatTypes(t *testing.T) {
	text := "def a(k, v) = k(v) in "
	for i := range len("abcdefgh") {
		text += strings.NewReplacer("Y", string("bcdefghi"[i]), "X", string("abcdefgh"[i])).Replace("def Y(k) = k(X, X, X) in ")
	}
	for _, x := range []struct {
		end  string
		e    api.Errno
		want []int
	}{{"0", api.ErrLong, nil}, {"z(i, i)", api.ErrLong, nil}, {"z(i) | z(i)", api.ErrLong, nil}, {"z(i) | z(1)", api.ErrRule, []int{16, 18, 19}}, {"i(i)", api.ErrRule, []int{16, 17, 18}}} {
		u := process(text + x.end)
		if y, e := infer.Infer(u); e != x.e || showTyping(y) != "" {
			t.Error(x.end, e)
		}
		if is := allTypes(t, u); is != (x.want == nil) {
			t.Error(x.end, is)
		}
		if l, e := infer.Explain(u); !slices.Equal(l, x.want) || (e == api.OK) != (x.want != nil) {
			t.Error(x.end, l, e)
		}
	}
	if is, e := infer.With(process(text+"z(i)"), types("chan(chan(0))")); is || e != api.OK {
		t.Error(is, e)
	}
}

// P4.2: the greatest number of a variable is 999. A channel that hands on has as many variables of its own as the one that it hands to.
func TestInferVariables(t *testing.T) {
	const text = `def x(a, b, c) = 0 in def y(k, a, b) = k(x, x, x) in def z(k, a, b) = k(y, y, y) in
def w(k) = k(z, z, z) and ua(k) = w(k) and ub(k) = w(k) and uc(k) = w(k) and ud(k) = w(k) in
def ue(k) = w(k) and uf(k) = w(k) and ug(k) = w(k) and uh(k) = w(k) and `
	u := process(text + "r(a, b, c) & s(d, e, f) = 0 in 0")
	y, e := infer.Infer(u)
	if e != api.OK {
		t.Fatal(e)
	}
	want, _, variables := typing(u, nil, always).result()
	last := y.Defs[4][5]
	if showTyping(y) != showTyping(want) || variables != 1000 || !slices.Equal(last.All, []int{997, 998, 999}) {
		t.Error(variables, last)
	}
	for _, more := range []string{"r(a, b, c) & s(d, e, f) & t(g) = 0 in 0", "r(a, b, c) & s(d, e, f) & t(g, h, i) = 0 in 0", "r(a, b, c) & s(d, e, f) = 0 in 0 | v()"} {
		if y, e := infer.Infer(process(text + more)); (e == api.OK) != strings.HasSuffix(more, "v()") || e != api.OK && (e != api.ErrLong || showTyping(y) != "") {
			t.Error(more, e)
		}
	}
}

// P4.2: processes that are the same up to bound names have the same types.
func TestInferMade(t *testing.T) {
	typed, general, bound := 0, 0, 0
	processes(t, 5000, func(seed int64, u api.Term) {
		o := typing(u, nil, always)
		y, e := infer.Infer(u)
		if o.wrong {
			if e != api.ErrRule || showTyping(y) != "" {
				t.Error(seed, source(u), showTyping(y), e)
			}
			return
		}
		typed++
		want, _, variables := o.result()
		if e != api.OK || showTyping(y) != showTyping(want) {
			t.Error(seed, source(u), "\n", showTyping(y), e, "\n", showTyping(want))
		}
		for _, d := range y.Defs {
			for _, s := range d {
				general += len(s.All)
				variables -= len(s.All)
			}
		}
		bound += variables
		c, _ := term.Canon(u)
		if z, e := infer.Infer(c); e != api.OK || showTyping(z) != showTyping(y) {
			t.Error(seed, source(u), showTyping(y), "\n", source(c), showTyping(z), e)
		}
	})
	if typed < 1000 || general < 1000 || bound < 1000 {
		t.Error("too few of one kind:", typed, general, bound)
	}
}
