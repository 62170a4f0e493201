package scope_test

import (
	"fmt"
	"math/rand"
	"slices"
	"testing"

	"cabotage/api"
	"cabotage/read"
	"cabotage/scope"
	"cabotage/term"
)

// printed returns the source of the process for a program.
func printed(t *testing.T, p api.ScopeProg) string {
	t.Helper()
	u, e := scope.Term(p)
	s, f := read.Print(u)
	if e != api.OK || f != api.OK {
		t.Error(p, e, f)
	}
	return s
}

// P3.5: the chapter's example.
func TestTermOfExample(t *testing.T) {
	if s := printed(t, program()); s != "def a(e) & c() = z(e, b) and place d { in go q; a(1) } in c() | watch d; 0" {
		t.Error(s)
	}
}

// P3.5: names are chosen node by node, and rules come before places.
func TestTermOfSources(t *testing.T) {
	for _, x := range []struct{ source, want string }{
		{"0", "0"},
		{"stop | u(1, a - 2 * b, ~7)", "stop | u(1, a - 2 * b, ~7)"},
		{"if a < 1 then go p; 0 else watch q; stop", "if a < 1 then go p; 0 else watch q; stop"},
		{"def place p { x() = 0 and place q { y() = 0 in go q; 0 } in go p; 0 } and z(v) = 0 in x(z)", "def a(f) = 0 and place d { b() = 0 and place e { c() = 0 in go e; 0 } in go d; 0 } in b(a)"},
		// The values of a rule, and all that its body binds, before those of the next rule, and these before what is in places.
		{"def x(u) = def y(v) = 0 in 0 and x(w) = 0 and place p { in def y(s) = 0 in 0 } in def y(r) = 0 in 0", "def a(c) = def d(e) = 0 in 0 and a(f) = 0 and place b { in def g(h) = 0 in 0 } in def i(j) = 0 in 0"},
		// A rule whose body is a TermDef: its values first.
		{"def x(u, v) & y(w) = def z() & s(r) = r(z) in s(u) in 0", "def a(c, d) & b(e) = def f() & g(h) = h(f) in g(c) in 0"},
		{"def x() = a(c, e) in go d; x()", "def b() = a(c, e) in go d; b()"},
	} {
		p, e := scope.Bind(process(x.source))
		if s := printed(t, p); e != api.OK || s != x.want {
			t.Errorf("%s\n%s\n%s", x.source, s, x.want)
		}
	}
	// Free names that nobody needs are not chosen either, and keywords are no names.
	p := defined(api.ScopeDef{Chans: []api.ScopeChan{{Many: 1}}, Rules: []api.ScopeRule{{Joins: []int{0}}}})
	p.Free = []string{"a", "c", "d"}
	if s := printed(t, p); s != "def b(e) = stop in stop" {
		t.Error(s)
	}
}

// P3.5: programs that are not in order.
func TestTermOfOthers(t *testing.T) {
	type rules = []api.ScopeRule
	type channels = []api.ScopeChan
	p := defined(api.ScopeDef{
		Chans: channels{{At: 2, Many: 1}, {Many: 2}, {At: 1}, {}},
		Spots: []api.ScopeSpot{{}, {}, {In: 1}},
		Rules: rules{{At: 2, Joins: []int{0}}, {Joins: []int{3, 1}}, {At: 1, Joins: []int{2}}, {Joins: []int{1}}},
	})
	for i, r := range p.Defs[0].Rules {
		p.Nodes[r.Node] = api.ScopeNode{Op: api.TermSend, N: i, Args: []api.ScopeExp{name(1 + i)}}
	}
	// The free name is a; b to h are what is defined; i is of the first rule, j and k of the second one, l and m of the last one.
	p.Nodes = append(p.Nodes, node(api.TermGo, 6, 1), stop())
	p.Nodes[0].Kids[0] = 9
	p.Nodes[p.Defs[0].Spots[1].Node] = node(api.TermWatch, 7, 10)
	if e := scope.Check(p); e != api.OK {
		t.Fatal(e)
	}
	want := "def e() & c(j, k) = b(c) and c(l, m) = d(e) and place f { d() = c(d) and place h { in stop } in stop } and place g { b(i) = a(b) in watch h; stop } in go g; stop"
	if s := printed(t, p); s != want {
		t.Errorf("%s\n%s", s, want)
	}
	if is, e := scope.InOrder(p); is || e != api.OK {
		t.Error(is, e)
	}
}

// P3.5: the names that are chosen, for programs in order and others; a program in order is that of its process.
func TestTermOfAny(t *testing.T) {
	made := 0
	each(t, func(r *rand.Rand, p api.ScopeProg) {
		for i, q := range []api.ScopeProg{p, shuffled(r, p), shuffled(r, p)} {
			want := chosen(q)
			u, e := scope.Term(q)
			if term.Check(want) != api.OK {
				if e != api.ErrLong || !same(u, api.Term{}) {
					t.Error(q, u, e)
				}
				continue
			}
			made++
			if e != api.OK || !same(u, want) {
				t.Fatalf("%d: %d\n%v\n%v", i, e, u, want)
			}
			if own, e := scope.Bind(u); i == 0 && (e != api.OK || !same(own, p)) {
				t.Errorf("%d\n%s\n%s", e, show(own), show(p))
			}
		}
	})
	if made < 800 {
		t.Error("too few:", made)
	}
}

// P3.5: what is the same but for numbers has the same process, and Term of Bind is the same process up to bound names.
func TestTermOfBind(t *testing.T) {
	each(t, func(r *rand.Rand, p api.ScopeProg) {
		q := copied(p)
		renumber(r, &q)
		u, e := scope.Term(p)
		v, f := scope.Term(q)
		if e != f || !same(u, v) {
			t.Error(e, f, u, v)
		}
		w := speller{p, facts{}, func(env, own []string, at int) string {
			return fmt.Sprintf("%c%c", 'p'+(len(env)+len(own))/26, 'a'+(len(env)+len(own))%26)
		}, apart}.process()
		if alike, g := term.Alike(u, w); e == api.OK && (!alike || g != api.OK) {
			t.Error(u, w, g)
		}
	})
}

// P3.5: the process would not be formed.
func TestTermLong(t *testing.T) {
	type def = api.ScopeDef
	fits := func(what any, p api.ScopeProg, ok bool) {
		t.Helper()
		u, e := scope.Term(p)
		if scope.Check(p) != api.OK || ok && e != api.OK || !ok && (e != api.ErrLong || !same(u, api.Term{})) {
			t.Error(what, u, e, scope.Check(p))
		}
	}
	for n := 1; n <= 60; n++ {
		fits(n, chain(n), n <= 12)
	}
	for n := range 9 {
		spots, rules, both, inner := def{}, def{}, def{}, def{Spots: make([]api.ScopeSpot, 1)}
		for i := range n {
			spots.Spots = append(spots.Spots, api.ScopeSpot{})
			rules.Chans = append(rules.Chans, api.ScopeChan{})
			rules.Rules = append(rules.Rules, api.ScopeRule{Joins: []int{i}})
			inner.Spots = append(inner.Spots, api.ScopeSpot{In: 1})
		}
		both.Chans, both.Rules = slices.Clone(rules.Chans), slices.Clone(rules.Rules)
		both.Spots = make([]api.ScopeSpot, 1)
		fits(fmt.Sprint(n, " places"), defined(spots), n >= 1 && n <= 5)
		fits(fmt.Sprint(n, " rules"), defined(rules), n >= 1 && n <= 5)
		fits(fmt.Sprint(n, " rules and a place"), defined(both), n <= 4)
		fits(fmt.Sprint(n, " places in a place"), defined(inner), n <= 5)
	}
	for n := range 14 {
		row := def{}
		for i := range n {
			row.Spots = append(row.Spots, api.ScopeSpot{In: i})
		}
		fits(fmt.Sprint(n, " places, each in the one before"), defined(row), n >= 1 && n <= 10)
	}
	for _, n := range []int{1, 25, 27, 29} {
		p := one(api.ScopeNode{Op: api.TermSend, Args: []api.ScopeExp{broad(29), broad(n)}})
		fits(n, p, 1+29+n <= 60)
		p.Nodes[0].Args = append(p.Nodes[0].Args, num(1))
		fits(n, p, 1+29+n+1 <= 60)
		p.Nodes[0].Args[2] = sum(num(1), num(1))
		fits(n, p, 1+29+n+3 <= 60)
	}
	fits("no definition has anything", nested(12), false)
}

// P3.5: as many names are chosen as a definition can have; most have two letters.
func TestTermOfLargest(t *testing.T) {
	d := api.ScopeDef{Spots: []api.ScopeSpot{{}, {In: 1}}}
	for i := range 10 {
		r := api.ScopeRule{At: i / 4}
		for k := range 3 {
			d.Chans = append(d.Chans, api.ScopeChan{At: r.At, Many: 3})
			r.Joins = append(r.Joins, 3*i+k)
		}
		d.Rules = append(d.Rules, r)
	}
	p := defined(d)
	p.Free = []string{"abcdefgh"}
	for i, r := range p.Defs[0].Rules {
		p.Nodes[r.Node] = api.ScopeNode{Op: api.TermSend, Args: []api.ScopeExp{name(1 + 30 + 2 + 8), name(i)}}
	}
	u, e := scope.Term(p)
	if e != api.OK || !same(u, chosen(p)) {
		t.Error(u, e)
	}
	q, e := scope.Bind(u)
	if v, f := scope.Term(q); e != api.OK || f != api.OK || !same(u, v) || !same(q.Defs[0].Chans, d.Chans) {
		t.Error(q, v, e, f)
	}
}
