package scope_test

import (
	"fmt"
	"math/rand"
	"strings"
	"testing"

	"cabotage/api"
	"cabotage/scope"
	"cabotage/term"
)

// show writes a program shortly: its free names, its nodes, and its definitions with channels, places and rules.
func show(p api.ScopeProg) string {
	var exp func(e api.ScopeExp) string
	exp = func(e api.ScopeExp) string {
		switch {
		case e.Op == api.TermInt && len(e.Kids) == 0:
			return fmt.Sprint("#", e.N)
		case e.Op == api.TermName && len(e.Kids) == 0:
			return fmt.Sprint(e.N)
		case len(e.Kids) == 2 && e.N == 0:
			return "(" + exp(e.Kids[0]) + []string{"", "", "", "+", "-", "*", "<", "=="}[e.Op] + exp(e.Kids[1]) + ")"
		}
		return fmt.Sprint(e)
	}
	lines := []string{strings.Join(p.Free, " ")}
	for i, n := range p.Nodes {
		s := fmt.Sprint(i, " ", []string{"", "nil", "send", "par", "def", "if", "go", "stop", "watch"}[n.Op], " ", n.N)
		for _, e := range n.Args {
			s += " " + exp(e)
		}
		if len(n.Kids) > 0 {
			s += fmt.Sprint(" ", n.Kids)
		}
		lines = append(lines, s)
	}
	for _, d := range p.Defs {
		lines = append(lines, fmt.Sprint(d.Chans, d.Spots, d.Rules))
	}
	return fmt.Sprint(strings.Join(lines, "; "), " at ", p.Main)
}

// P3.4
func TestBindSources(t *testing.T) {
	for _, x := range []struct{ source, want string }{
		{"0", "; 0 nil 0 at 0"},
		{"stop", "; 0 stop 0 at 0"},
		{"b(~3, a, c + a * 2)", "a b c; 0 send 1 #-3 0 (2+(0*#2)) at 0"},
		{"z(1 - 2 < b) | (b(1 == b) | 0)", "b z; 0 par 0 [1 2]; 1 send 1 ((#1-#2)<0); 2 par 0 [3 4]; 3 send 0 (#1==0); 4 nil 0 at 0"},
		{"if a then go b; 0 else watch c; stop", "a b c; 0 if 0 0 [1 3]; 1 go 1 [2]; 2 nil 0; 3 watch 2 [4]; 4 stop 0 at 0"},
		{example, "b q z; 0 def 0 [4]; 1 send 2 6 0; 2 go 1 [3]; 3 send 3 #1; 4 par 0 [5 6]; 5 send 4; 6 watch 5 [7]; 7 nil 0; [{0 1} {0 0}] [{0 2}] [{0 [0 1] 1}] at 0"},
		{"def x(a) = out(a) and place p { y() = go q; x(1) in y() } and place q { in 0 } in 0", "out; 0 def 0 [6]; 1 send 0 5; 2 go 4 [3]; 3 send 1 #1; 4 send 2; 5 nil 0; 6 nil 0; [{0 1} {1 0}] [{0 4} {0 5}] [{0 [0] 1} {1 [1] 2}] at 0"},
		// A name that is bound again is the last one: a channel that a rule binds, a place, a free name.
		{"def x(x) = x(x) in x(x)", "; 0 def 0 [2]; 1 send 1 1; 2 send 0 0; [{0 1}] [] [{0 [0] 1}] at 0"},
		{"def x(y) & y(x) = x(y, p) and place p { in x(y, p) } in 0", "; 0 def 0 [3]; 1 send 4 3 2; 2 send 0 1 2; 3 nil 0; [{0 1} {0 1}] [{0 2}] [{0 [0 1] 1}] at 0"},
		{"a() | def a() = a() in a()", "a; 0 par 0 [1 2]; 1 send 0; 2 def 0 [4]; 3 send 1; 4 send 1; [{0 0}] [] [{0 [0] 3}] at 0"},
		{"def x() = def x(y) = x(y) in x(x) in def x(x) = 0 in x()", "; 0 def 0 [4]; 1 def 1 [3]; 2 send 1 2; 3 send 1 1; 4 def 2 [6]; 5 nil 0; 6 send 1; [{0 0}] [] [{0 [0] 1}]; [{0 1}] [] [{0 [0] 2}]; [{0 1}] [] [{0 [0] 5}] at 0"},
		{"def x(p) & y(q) = go p; watch q; p(q) and place p { in go p; 0 } in go p; 0", "; 0 def 0 [6]; 1 go 3 [2]; 2 watch 4 [3]; 3 send 3 4; 4 go 2 [5]; 5 nil 0; 6 go 2 [7]; 7 nil 0; [{0 1} {0 1}] [{0 4}] [{0 [0 1] 1}] at 0"},
		// What is defined is bound in front of its definition, and in all that is defined beside it.
		{"def place p { in x() } and x() = y() and place q { y() = go p; 0 in go q; 0 } in 0", "; 0 def 0 [7]; 1 send 1; 2 go 2 [3]; 3 nil 0; 4 send 0; 5 go 3 [6]; 6 nil 0; 7 nil 0; [{0 0} {2 0}] [{0 4} {0 5}] [{0 [0] 1} {2 [1] 2}] at 0"},
		// Several rules, with channels that they share; rules of places come behind the others, by their places.
		{"def x() & y(a) = 0 and z() & x() = stop and y(b) = z(b) in 0", "; 0 def 0 [4]; 1 nil 0; 2 stop 0; 3 send 2 3; 4 nil 0; [{0 0} {0 1} {0 0}] [] [{0 [0 1] 1} {0 [2 0] 2} {0 [1] 3}] at 0"},
		{"def place p { u() = go p; 0 and place q { v() = go q; 0 and w() & v() = 0 in stop } and u() = stop in 0 } and x() = u() and place r { s() = go r; 0 in x() } in v()", "; 0 def 0 [13]; 1 send 1; 2 go 5 [3]; 3 nil 0; 4 stop 0; 5 go 6 [6]; 6 nil 0; 7 nil 0; 8 go 7 [9]; 9 nil 0; 10 nil 0; 11 stop 0; 12 send 0; 13 send 2; [{0 0} {1 0} {2 0} {2 0} {3 0}] [{0 10} {1 11} {0 12}] [{0 [0] 1} {1 [1] 2} {1 [1] 4} {2 [2] 5} {2 [3 2] 7} {3 [4] 8}] at 0"},
	} {
		p, e := scope.Bind(process(x.source))
		if e != api.OK || show(p) != x.want {
			t.Errorf("%s: %d\n%s\n%s", x.source, e, show(p), x.want)
		}
	}
}

// P3.4: whatever names are bound, and however rules and places are mixed, it is the program with these places; it is formed, and in order.
func TestBindSpelt(t *testing.T) {
	bound := 0
	each(t, func(r *rand.Rand, p api.ScopeProg) {
		for range 3 {
			u := spelt(r, p)
			if term.Check(u) != api.OK {
				continue
			}
			bound++
			q, e := scope.Bind(u)
			if e != api.OK || !same(p, q) {
				t.Fatalf("%v: %d\n%s\n%s", u, e, show(p), show(q))
			}
			if is, e := scope.InOrder(q); !is || e != api.OK || scope.Check(q) != api.OK {
				t.Error(show(q), is, e)
			}
			v, _ := term.Canon(u)
			if q, e := scope.Bind(v); e != api.OK || !same(p, q) {
				t.Errorf("%v: %d\n%s\n%s", v, e, show(p), show(q))
			}
		}
	})
	if bound < 800 {
		t.Error("too few:", bound)
	}
}

// rules returns rules with so many channels of their own, three in each.
func rules(letter string, channels int) []api.TermClause {
	var l []api.TermClause
	for i := range channels {
		if i%3 == 0 {
			l = append(l, api.TermClause{Form: api.TermRule, Kids: []api.Term{{Op: api.TermNil}}})
		}
		c := &l[i/3]
		c.Joins = append(c.Joins, api.TermMsg{Text: letter + string(rune('a'+i))})
	}
	return l
}

// wide returns a TermDef with 12 channels of its own, 12 in a place, and so many more in a place of that.
func wide(channels int) api.Term {
	nil := []api.Term{{Op: api.TermNil}}
	q := api.TermClause{Form: api.TermPlace, Text: "q", Defs: rules("z", channels), Kids: nil}
	p := api.TermClause{Form: api.TermPlace, Text: "p", Defs: append(rules("y", 12), q), Kids: nil}
	return api.Term{Op: api.TermDef, Defs: append(rules("x", 12), p), Kids: nil}
}

// manyFree returns a process with so many free names.
func manyFree(n int) api.Term {
	t := api.Term{Op: api.TermNil}
	for i := range n {
		if i%4 > 0 {
			x := &t.Kids[1]
			x.Args = append(x.Args, api.TermExp{Op: api.TermName, Text: string(rune('a' + i))})
			continue
		}
		t = api.Term{Op: api.TermPar, Kids: []api.Term{t, {Op: api.TermSend, Text: string(rune('a' + i))}}}
	}
	return t
}

// manyDefs returns a process with so many TermDefs: some in the Kid of the one before, the others likewise beside them.
func manyDefs(n int) api.Term {
	row := func(n int) api.Term {
		t := api.Term{Op: api.TermNil}
		for range n {
			p := api.TermClause{Form: api.TermPlace, Text: "p", Kids: []api.Term{{Op: api.TermStop}}}
			t = api.Term{Op: api.TermDef, Defs: []api.TermClause{p}, Kids: []api.Term{t}}
		}
		return t
	}
	return api.Term{Op: api.TermPar, Kids: []api.Term{row(n / 2), row(n - n/2)}}
}

// P3.4: there is more of something than a program has.
func TestBindLong(t *testing.T) {
	for _, x := range []struct {
		what  string
		make  func(n int) api.Term
		most  int
		count func(p api.ScopeProg) int
	}{
		{"free names", manyFree, 12, func(p api.ScopeProg) int { return len(p.Free) }},
		{"definitions", manyDefs, 12, func(p api.ScopeProg) int { return len(p.Defs) }},
		{"channels", func(n int) api.Term { return wide(n - 24) }, 30, func(p api.ScopeProg) int { return len(p.Defs[0].Chans) }},
	} {
		for n := x.most - 2; n <= x.most+3; n++ {
			u := x.make(n)
			if e := term.Check(u); e != api.OK {
				t.Fatal(x.what, n, e)
			}
			p, e := scope.Bind(u)
			if n <= x.most && (e != api.OK || x.count(p) != n) || n > x.most && (e != api.ErrLong || !same(p, api.ScopeProg{})) {
				t.Error(x.what, n, e, p)
			}
			// What is not formed comes first.
			u = api.Term{Op: api.TermPar, Kids: []api.Term{u, {Op: api.TermNil, Text: "a"}}}
			if p, e := scope.Bind(u); e != api.ErrArg || !same(p, api.ScopeProg{}) {
				t.Error(x.what, n, e, p)
			}
		}
	}
	// A channel of another TermDef does not count, nor does a name that is bound.
	two := wide(3)
	two.Kids = []api.Term{{Op: api.TermDef, Defs: rules("u", 6), Kids: []api.Term{{Op: api.TermNil}}}}
	if p, e := scope.Bind(two); e != api.OK || len(p.Defs[0].Chans)+len(p.Defs[1].Chans) != 33 {
		t.Error(e, p)
	}
}

// P3.4: processes that are not formed.
func TestBindUnformed(t *testing.T) {
	loop := api.Term{Op: api.TermPar, Kids: make([]api.Term, 2)}
	loop.Kids[0], loop.Kids[1] = loop, loop
	deep := api.Term{Op: api.TermNil}
	for range 12 {
		deep = api.Term{Op: api.TermGo, Text: "p", Kids: []api.Term{deep}}
	}
	place := api.TermClause{Form: api.TermPlace, Text: "p", Kids: []api.Term{{Op: api.TermNil}}}
	for i, u := range []api.Term{
		{}, {Op: 9}, {Op: -1}, {Op: api.TermSend, Text: "go"}, {Op: api.TermSend}, {Op: api.TermNil, Text: "a"}, {Op: api.TermPar}, {Op: api.TermGo, Text: "p"},
		{Op: api.TermDef, Kids: []api.Term{{Op: api.TermNil}}}, {Op: api.TermDef, Defs: []api.TermClause{place, place}, Kids: []api.Term{{Op: api.TermNil}}},
		{Op: api.TermSend, Text: "a", Args: []api.TermExp{{Op: api.TermInt, N: api.TermMost + 1}}}, {Op: api.TermSend, Text: "a", Args: make([]api.TermExp, 1)}, deep, loop,
	} {
		if p, e := scope.Bind(u); e != api.ErrArg || !same(p, api.ScopeProg{}) {
			t.Error(i, p, e)
		}
	}
}
