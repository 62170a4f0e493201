package term_test

import (
	"slices"
	"strings"
	"testing"

	"cabotage/api"
	"cabotage/term"
)

func readAll(l ...string) []api.Term {
	var out []api.Term
	for _, s := range l {
		out = append(out, read(s))
	}
	return out
}

// P1.6
func TestParts(t *testing.T) {
	for _, x := range []struct {
		s    string
		want []string
	}{
		{"0", nil}, {"0 | 0", nil}, {"(0 | 0) | 0 | 0", nil}, {"x()", []string{"x()"}}, {"stop", []string{"stop"}}, {"stop | 0", []string{"stop"}},
		{"0 | (x() | y())", []string{"x()", "y()"}}, {"(x() | y(1)) | (0 | z(a)) | x()", []string{"x()", "y(1)", "z(a)", "x()"}}, {"((a() | b()) | c()) | d()", []string{"a()", "b()", "c()", "d()"}},
		// Not further inside.
		{"go p; (x() | 0)", []string{"go p; (x() | 0)"}}, {"(watch p; (0 | x())) | if 1 then x() | 0 else 0 | 0", []string{"watch p; (0 | x())", "if 1 then x() | 0 else 0 | 0"}},
		{"(def x() = 0 | x() in x() | 0) | 0", []string{"def x() = 0 | x() in x() | 0"}}, {example, []string{example}},
	} {
		if l, e := term.Parts(read(x.s)); e != api.OK || !same(l, readAll(x.want...)) {
			t.Errorf("%s: %d %v", x.s, e, l)
		}
	}
	for i, u := range unformed() {
		if l, e := term.Parts(u); e != api.ErrArg || len(l) > 0 {
			t.Error(i, e, l)
		}
	}
}

// P1.6
func TestBeside(t *testing.T) {
	for _, x := range []struct {
		l    []string
		want string
	}{
		{nil, "0"}, {[]string{"x()"}, "x()"}, {[]string{"0"}, "0"}, {[]string{"x() | 0"}, "x() | 0"}, {[]string{"x()", "y()"}, "x() | y()"}, {[]string{"x()", "y()", "z()"}, "x() | (y() | z())"},
		{[]string{"x()", "0", "y()"}, "x() | (0 | y())"}, {[]string{"0", "0"}, "0 | 0"}, {[]string{"x() | y()", "z() | 0", "u()"}, "(x() | y()) | ((z() | 0) | u())"}, {[]string{"stop", "stop", "stop", "stop"}, "stop | (stop | (stop | stop))"},
	} {
		if u, e := term.Beside(readAll(x.l...)); e != api.OK || !same(u, read(x.want)) {
			t.Errorf("%v: %d %v", x.l, e, u)
		}
	}
	if u, e := term.Beside([]api.Term{}); e != api.OK || !same(u, read("0")) {
		t.Error(e, u)
	}
	one, bad := read("x()"), read("in()")
	deep := func(n int) api.Term { return read(strings.Repeat("go p; ", n-1) + "0") }
	for i, x := range []struct {
		l    []api.Term
		want api.Errno
	}{
		{slices.Repeat([]api.Term{one}, 12), api.OK}, {slices.Repeat([]api.Term{one}, 13), api.ErrLong}, {slices.Repeat([]api.Term{one}, 60), api.ErrLong}, {slices.Repeat([]api.Term{one}, 61), api.ErrLong}, {slices.Repeat([]api.Term{one}, 500), api.ErrLong},
		{[]api.Term{deep(12)}, api.OK}, {[]api.Term{deep(11), one}, api.OK}, {[]api.Term{deep(12), one}, api.ErrLong}, {[]api.Term{one, deep(11)}, api.OK}, {[]api.Term{one, deep(12)}, api.ErrLong}, {[]api.Term{one, one, deep(11)}, api.ErrLong}, {[]api.Term{deep(11), one, deep(10)}, api.OK},
		{[]api.Term{send("x", sum(29)), send("x", sum(27), num(1))}, api.OK}, {[]api.Term{send("x", sum(29)), send("x", sum(29))}, api.ErrLong}, {[]api.Term{send("x", sum(29)), send("x", sum(29), num(1))}, api.ErrLong},
		{[]api.Term{bad}, api.ErrArg}, {[]api.Term{one, {}}, api.ErrArg}, {[]api.Term{{}, one}, api.ErrArg}, {append(slices.Repeat([]api.Term{one}, 12), bad), api.ErrArg}, {append(slices.Repeat([]api.Term{one}, 100), bad), api.ErrArg}, {[]api.Term{deep(12), deep(12), bad, one}, api.ErrArg},
	} {
		if u, e := term.Beside(x.l); e != x.want || (e == api.OK) == same(u, api.Term{}) {
			t.Errorf("%d: %d %v", i, e, u)
		}
	}
}

// halves returns so many processes beside each other, in halves.
func halves(n int) string {
	if n == 1 {
		return "x()"
	}
	return "(" + halves(n/2) + " | " + halves(n-n/2) + ")"
}

// P1.6
func TestLayout(t *testing.T) {
	for _, x := range []struct{ s, want string }{
		{"0", "0"}, {"stop", "stop"}, {"x(1)", "x(1)"}, {"x() | y()", "x() | y()"}, {"(x() | 0) | y()", "x() | y()"}, {"0 | 0", "0"}, {"0 | x()", "x()"}, {"x() | 0", "x()"}, {"(0 | 0) | (0 | 0)", "0"},
		{"((a() | b()) | c()) | d()", "a() | b() | c() | d()"}, {"(a() | b()) | (c() | d())", "a() | b() | c() | d()"}, {"(a() | 0) | (0 | (b() | c()) | 0)", "a() | b() | c()"},
		// Further inside as well.
		{"go p; ((x() | (0 | y())) | z())", "go p; (x() | (y() | z()))"}, {"watch p; (0 | 0)", "watch p; 0"}, {"if 1 then (a() | b()) | c() else 0 | d()", "if 1 then a() | b() | c() else d()"},
		{"def x() = 0 | y() and place p { z() = (a() | b()) | c() and place q { u() = 0 | u() in 0 | u() } in z() | 0 } in (x() | x()) | x()", "def x() = y() and place p { z() = a() | b() | c() and place q { u() = u() in u() } in z() } in x() | x() | x()"},
		{"((go p; (0 | x())) | 0) | (def x() = 0 | 0 in 0)", "(go p; x()) | (def x() = 0 in 0)"}, {"go p; go q; watch r; (0 | (x() | 0))", "go p; go q; watch r; x()"},
		{example, example}, {halves(12), strings.Repeat("x() | ", 11) + "x()"}, {"0 | " + halves(12), strings.Repeat("x() | ", 11) + "x()"},
	} {
		if u, e := term.Layout(read(x.s)); e != api.OK || !same(u, read(x.want)) {
			t.Errorf("%s: %d %v", x.s, e, u)
		}
	}
	for _, s := range []string{halves(13), halves(16), "go p; " + halves(12), "def x() = " + halves(11) + " in 0", "(" + halves(8) + " | go p; y(1)) | " + halves(8)} {
		if u, e := term.Layout(read(s)); e != api.ErrLong || !same(u, api.Term{}) {
			t.Errorf("%s: %d %v", s, e, u)
		}
	}
	for i, u := range unformed() {
		if v, e := term.Layout(u); e != api.ErrArg || !same(v, api.Term{}) {
			t.Error(i, e, v)
		}
	}
}

// P1.6: what is laid out has no TermPar on the left of one, and no TermNil beside anything.
func TestLayoutMade(t *testing.T) {
	formedOnes(t, func(seed int64, u api.Term) {
		v, e := term.Layout(u)
		if e != api.OK && e != api.ErrLong {
			t.Errorf("%d: %d", seed, e)
		}
		if e != api.OK {
			return
		}
		a, _ := term.Free(u)
		b, _ := term.Free(v)
		w, e := term.Layout(v)
		if e != api.OK || !same(v, w) || !slices.Equal(a, b) || !isLaid(v) {
			t.Errorf("%d: %d %v, then %v", seed, e, v, w)
		}
		p, _ := term.Parts(v)
		if r, e := term.Beside(p); e != api.OK || !same(r, v) {
			t.Errorf("%d: %d %v of %v", seed, e, r, p)
		}
	})
}

func isLaid(t api.Term) bool {
	if t.Op == api.TermPar && (t.Kids[0].Op == api.TermPar || t.Kids[0].Op == api.TermNil || t.Kids[1].Op == api.TermNil) {
		return false
	}
	var all func(l []api.TermClause) bool
	all = func(l []api.TermClause) bool {
		for _, d := range l {
			if !isLaid(d.Kids[0]) || !all(d.Defs) {
				return false
			}
		}
		return true
	}
	for _, k := range t.Kids {
		if !isLaid(k) {
			return false
		}
	}
	return all(t.Defs)
}
