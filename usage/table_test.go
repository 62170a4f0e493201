package usage_test

import (
	"math/rand"
	"testing"

	"cabotage/api"
	"cabotage/internal/sample"
	"cabotage/usage"
)

// tableOf returns the table of a program, which must be accepted.
func tableOf(t *testing.T, p api.ScopeProg) []api.UsageDef {
	t.Helper()
	u, e := usage.Table(p)
	if is, f := usage.Accepts(p, u); e != api.OK || f != api.OK || !is {
		t.Error(show(u), e, "is not accepted:", is, f)
	}
	return u
}

// P5.2: the chapter's examples, and each way in which a count becomes what it is.
func TestTableOfSources(t *testing.T) {
	for _, x := range []struct{ source, table string }{
		{example, found},
		{"def x(a) = a(1) | a(2) and y(b) & z(c) = b(c) in y(out) | z(x)", "*!!/*1/*,1,*"},
		{"def x() = x() in x()", "*/*/"},
		{"def x() = x() in 0", "0/0/"},
		{"def k(a) = 0 in def r() = k(r) in r() | k(1)", "*/*/0 !/1/"},
		{"def k(a) = a() in def r() = k(r) in r()", "*/*/1 */*/"},
		// Nothing to count.
		{"0", ""},
		{"def place p { in 0 } in go p; out()", "//"},
		{"def x(a) & y(b, c) = 0 and x(d) = 0 in 0", "00/00/0,00"},
		// What comes to a channel, and whether it comes at once.
		{"def x() = 0 in x()", "!/1/"},
		{"def x() = 0 in x() | x()", "*/*/"},
		{"def x() = 0 in go q; x()", "1/1/"},
		{"def x() = 0 in watch q; x()", "1/1/"},
		{"def x() = 0 in x() | go q; x()", "*/*/"},
		{"def x() = 0 in if q then x() else x()", "!/1/"},
		{"def x() = 0 in if q then x() else 0", "1/1/"},
		{"def x() = 0 in if q then x() | x() else x()", "*/*/"},
		{"def x() = 0 in (if q then x() else 0) | if q then 0 else x()", "*/*/"},
		{"def x() = 0 and place p { in x() } in 0", "!/1/"},
		{"def x() = 0 and place p { in x() } in x()", "*/*/"},
		{"def x() = 0 and place p { place r { in x() } in 0 } in 0", "!/1/"},
		{"def place p { x() = 0 in x() } in 0", "!/1/"},
		{"def x() = 0 in x(1)", "0/0/"},
		{"def x() = 0 in x(1) | x()", "!/1/"},
		{"def x() = 0 in out(x)", "*/*/"},
		{"def x() = 0 in out(x + 1, x == x)", "0/0/"},
		{"def x() = 0 in def x() = 0 in x()", "0/0/ !/1/"},
		// By rules.
		{"def x() = 0 in def w() = x() in w()", "1/1/ !/1/"},
		{"def x() = 0 in def w() = x() in 0", "0/0/ 0/0/"},
		{"def x() = 0 in def w() = x() in w() | w()", "*/*/ */*/"},
		{"def x() = 0 in def w() & v() = x() in w() | w() | v()", "1/1/ *!/1/,"},
		{"def x() = 0 and y() & z() = x() in y() | y() | z() | z()", "***/**/,,"},
		{"def x() & y() = 0 and y() & z() = 0 in x() | y() | y()", "!*0/10/,,"},
		{"def m() = (def x() = 0 in x()) in m() | m()", "*/*/ !/1/"},
		{"def x() = x() | y() and y() = 0 in go q; x()", "**/**/,"},
		// By what messages bring.
		{"def x(a) = 0 in x(x)", "!/1/0"},
		{"def x(a) = 0 in x(x + 1)", "!/1/0"},
		{"def x(a) = a(1) in x(x)", "*/*/1"},
		{"def x(a) = a(1, 2) in x(x)", "*/*/1"},
		{"def x(a) & y(b) = a(b) in x(out)", "!0/0/0,0"},
		{"def x(a) & y(b) = a(b) in x(out) | y(out)", "!!/1/1,*"},
		{"def x(a) = a() and x(b) & y() = b() | b() in x(out)", "!0/10/1,"},
		{"def x(a) = a() and x(b) & y() = b() | b() in x(out) | y()", "!!/11/*,"},
		{"def x(a, b) & y(c) = b() | out(c) in x(1, 2) | y(3)", "!!/1/01,*"},
		{"def x(a) = 0 and y(c) & x(b) = b() | out(c) in x(1) | y(3)", "!!/11/1,*"},
		{"def x(a) = if a then a() else a() in x(1)", "!/1/1"},
		{"def x(a) = go a; a() in x(1)", "!/1/1"},
		{"def x(a) = y(a) and y(b) = b() in x(out)", "!1/11/1,1"},
		{"def x(a) = y(a, a) and y(b, c) = b() | c() in x(out)", "!1/11/*,11"},
		{"def x(a) = y(a) and y(b) = y(b) in x(out)", "!*/1*/0,0"},
		{"def x(a) = (def y() = a() in y()) in x(out)", "!/1/1 !/1/"},
		{"def x(a) = (def y() = a() in y() | y()) in x(out)", "!/1/* */*/"},
		{"def x(a) = (def y() = a() in 0) in x(out)", "!/1/0 0/0/"},
		{"def x(a) = (def place p { in a() } in 0) in x(out)", "!/1/1 //"},
		{"def k(a) = a() in def r() = 0 in k(r)", "!/1/1 1/1/"},
		{"def k(a) = a() in def r() = 0 in k(r) | k(r)", "*/*/1 */*/"},
		{"def k(a) & l() = a() in def r() = 0 in k(r)", "!0/0/0, 0/0/"},
	} {
		if u := tableOf(t, program(x.source)); show(u) != x.table {
			t.Error(x.source, show(u), "not", x.table)
		}
	}
}

// P5.2: a program that is not in order: its nodes, definitions and channels have other numbers.
func TestTableOfOthers(t *testing.T) {
	// def x(a) & y() = a() in def z() = y() in x(out) | z(), with y before x, z before both, and Main behind all.
	p := api.ScopeProg{Free: []string{"out"}, Main: 6, Nodes: []api.ScopeNode{
		{Op: api.TermSend, N: 3},
		{Op: api.TermSend, N: 2, Args: []api.ScopeExp{name(0)}},
		{Op: api.TermSend, N: 1},
		{Op: api.TermDef, N: 0, Kids: []int{5}},
		{Op: api.TermSend, N: 3},
		{Op: api.TermPar, Kids: []int{4, 1}},
		{Op: api.TermDef, N: 1, Kids: []int{3}},
	}, Defs: []api.ScopeDef{
		{Chans: []api.ScopeChan{{}}, Rules: []api.ScopeRule{{Joins: []int{0}, Node: 2}}},
		{Chans: []api.ScopeChan{{}, {Many: 1}}, Rules: []api.ScopeRule{{Joins: []int{1, 0}, Node: 0}}},
	}}
	if u := tableOf(t, p); show(u) != "!/1/ 1!/1/,1" {
		t.Error(show(u))
	}
}

// P5.2: a chain in which each pass makes one count greater, as long as a program can have it.
func TestTableOfChain(t *testing.T) {
	p := program("def a() = 0 and b() = a() and c() = b() and d() = c() and e() = d() in def f() = e() and g() = f() and h() = g() and i() = h() and j() = i() in def k() = j() and l() = k() and m() = l() and n() = m() and o() = n() in o() | o()")
	if u := tableOf(t, p); show(u) != "*****/*****/,,,, *****/*****/,,,, *****/*****/,,,," {
		t.Error(show(u))
	}
	p = program("def a(u) = u() in def b(u) = a(u) in def c(u) = b(u) in def d(u) = c(u) in def e(u) = d(u) in def f() = e(f) in f()")
	if u := tableOf(t, p); show(u) != "*/*/1 */*/1 */*/1 */*/1 */*/1 */*/" {
		t.Error(show(u))
	}
}

// P5.2: the table is the one to which counts are raised one by one, in any order.
func TestTableOfMade(t *testing.T) {
	programs(t, 1500, func(seed int64, r *rand.Rand, p api.ScopeProg) {
		if u, want := tableOf(t, p), judgeOf(p).table(r); show(u) != show(want) {
			t.Error(seed, p, show(u), show(want))
		}
	})
}

// P5.2: what is refused.
func TestTableRefused(t *testing.T) {
	for _, p := range sample.Unformed(example) {
		if u, e := usage.Table(p); len(u) > 0 || e != api.ErrArg {
			t.Error(p, u, e)
		}
	}
}
