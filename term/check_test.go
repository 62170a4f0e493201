package term_test

import (
	"slices"
	"strings"
	"testing"

	"cabotage/api"
	"cabotage/term"
)

// nothings returns some processes that do nothing, exps some integers, and rules some rules with channels of their own.
func nothings(n int) []api.Term { return slices.Repeat([]api.Term{{Op: api.TermNil}}, n) }

func exps(n int) []api.TermExp { return slices.Repeat([]api.TermExp{num(1)}, n) }

func rules(n int) []api.TermClause {
	var l []api.TermClause
	for i := range n {
		l = append(l, api.TermClause{Form: api.TermRule, Joins: []api.TermMsg{{Text: "r" + string(rune('a'+i))}}, Kids: nothings(1)})
	}
	return l
}

// P1.2: what each process has, and that it has nothing else.
func TestCheckProcesses(t *testing.T) {
	type has struct {
		text             bool
		args, defs, kids []int
	}
	none, many := []int{0}, []int{1, 2, 3, 4, 5}
	table := map[api.TermOp]has{
		api.TermNil:   {false, none, none, none},
		api.TermStop:  {false, none, none, none},
		api.TermSend:  {true, []int{0, 1, 2, 3}, none, none},
		api.TermPar:   {false, none, none, []int{2}},
		api.TermDef:   {false, none, many, []int{1}},
		api.TermIf:    {false, []int{1}, none, []int{2}},
		api.TermGo:    {true, none, none, []int{1}},
		api.TermWatch: {true, none, none, []int{1}},
	}
	for op := api.TermOp(-1); op < 11; op++ {
		for _, s := range []string{"", "x", "go", "abcdefghi"} {
			for i := range 5 * 8 * 4 {
				args, defs, kids := i%5, i/5%8, i/40
				u := api.Term{Op: op, Text: s, Args: exps(args), Defs: rules(defs), Kids: nothings(kids)}
				h, want := table[op], api.ErrArg
				if (s == "x") == h.text && (s == "") == !h.text && slices.Contains(h.args, args) && slices.Contains(h.defs, defs) && slices.Contains(h.kids, kids) {
					want = api.OK
				}
				if e := term.Check(u); e != want {
					t.Fatalf("%v: %d, not %d", u, e, want)
				}
			}
		}
	}
}

// P1.2
func TestCheckExpressions(t *testing.T) {
	for op := api.TermSign(-1); op < 10; op++ {
		for _, s := range []string{"", "x", "go"} {
			for _, n := range []int{0, 1, -1, api.TermMost, -api.TermMost, api.TermMost + 1, -api.TermMost - 1} {
				for kids := range 4 {
					e := api.TermExp{Op: op, N: n, Text: s, Kids: exps(kids)}
					ok := op >= api.TermAdd && op <= api.TermSame && n == 0 && s == "" && kids == 2
					ok = ok || op == api.TermName && n == 0 && s == "x" && kids == 0
					ok = ok || op == api.TermInt && n >= -1000000000 && n <= 1000000000 && s == "" && kids == 0
					want := api.ErrArg
					if ok {
						want = api.OK
					}
					if f := term.CheckExp(e); f != want {
						t.Fatalf("%v: %d, not %d", e, f, want)
					}
					if f := term.Check(api.Term{Op: api.TermSend, Text: "x", Args: []api.TermExp{num(0), e}}); f != want {
						t.Fatalf("%v in a process: %d, not %d", e, f, want)
					}
					if f := term.CheckExp(api.TermExp{Op: api.TermAdd, Kids: []api.TermExp{num(0), e}}); f != want {
						t.Fatalf("%v in an expression: %d, not %d", e, f, want)
					}
				}
			}
		}
	}
}

// P1.2: what each definition has, and that it has nothing else.
func TestCheckDefinitions(t *testing.T) {
	for form := api.TermForm(-1); form < 5; form++ {
		for _, s := range []string{"", "x", "go"} {
			for i := range 5 * 7 * 3 {
				joins, defs, kids := i%5, i/5%7, i/35
				c := api.TermClause{Form: form, Text: s, Defs: rules(defs), Kids: nothings(kids)}
				for k := range joins {
					c.Joins = append(c.Joins, api.TermMsg{Text: string(rune('a' + k))})
				}
				ok := form == api.TermRule && s == "" && joins >= 1 && joins <= 3 && defs == 0 && kids == 1
				ok = ok || form == api.TermPlace && s == "x" && joins == 0 && defs <= 5 && kids == 1
				want := api.ErrArg
				if ok {
					want = api.OK
				}
				if e := term.Check(api.Term{Op: api.TermDef, Defs: []api.TermClause{c}, Kids: nothings(1)}); e != want {
					t.Fatalf("%v: %d, not %d", c, e, want)
				}
				within := api.TermClause{Form: api.TermPlace, Text: "q", Defs: []api.TermClause{c}, Kids: nothings(1)}
				if e := term.Check(api.Term{Op: api.TermDef, Defs: []api.TermClause{within}, Kids: nothings(1)}); e != want {
					t.Fatalf("%v in a place: %d, not %d", c, e, want)
				}
			}
		}
	}
}

// P1.2: names of Joins, channels and places.
func TestCheckNames(t *testing.T) {
	for _, s := range []string{
		example,
		"def x(x) & y() & z(a, b) = 0 in 0",
		"def x(x, y, z) & y() = x(1) in 0",
		"def x(a, b, c) & y(d, e, f) & z(g, h, i) = 0 in 0",
		"def x(a) = 0 and x(b) & y() = 0 and y() = 0 in 0",
		"def place p { x() = 0 and x() & y() = 0 in 0 } in 0",
		"def x() = 0 and place p { y() = 0 and place q { z() = 0 in 0 } in 0 } and place r { u() = 0 in 0 } in 0",
		"def x() = 0 in def x(a) = 0 in 0",
		"def x() = def x(a) & y() = 0 and place p { in 0 } in 0 and place p { in def x(a, b) = 0 in 0 } in 0",
		"def x(p) = 0 and place p { in 0 } in 0",
		"def place p { in 0 } in def place p { in 0 } in 0",
	} {
		if e := term.Check(read(s)); e != api.OK {
			t.Errorf("%s: %d", s, e)
		}
	}
	for _, s := range []string{
		"def x() & x() = 0 in 0", "def x() & y() & x() = 0 in 0",
		"def x(a, a) = 0 in 0", "def x(a) & y(a) = 0 in 0", "def x(a) & y() & z(b, a) = 0 in 0",
		"def x(a, b, c, d) = 0 in 0", "def x() & y(a, b, c, d) = 0 in 0",
		"def go() = 0 in 0", "def x() & abcdefghi() = 0 in 0", "def x(in) = 0 in 0", "def x(a) & y(b, abcdefghi) = 0 in 0",
		"def x() = 0 and x(a) = 0 in 0", "def x(a) = 0 and y() & x() = 0 in 0",
		"def place p { x() = 0 and x(a) = 0 in 0 } in 0",
		"def x() = 0 and place p { x() = 0 in 0 } in 0",
		"def place p { x() = 0 in 0 } and x() = 0 in 0",
		"def place p { x() = 0 in 0 } and place q { y() & x() = 0 in 0 } in 0",
		"def place p { x() = 0 and place q { x() = 0 in 0 } in 0 } in 0",
		"def place p { in 0 } and place p { in 0 } in 0",
		"def place p { place p { in 0 } in 0 } in 0",
		"def place p { place q { in 0 } in 0 } and place q { in 0 } in 0",
		"def x() = 0 and place x { in 0 } in 0",
		"def place p { p() = 0 in 0 } in 0",
		"def place p { in 0 } and place q { p() = 0 in 0 } in 0",
		"def x() & y() = 0 and place p { place y { in 0 } in 0 } in 0",
		"def x() = def y() & y() = 0 in 0 in 0",
		"def place p { in def place q { in 0 } and place q { in 0 } in 0 } in 0",
		"go p; watch q; (0 | if 1 then def x(a, a) = 0 in 0 else 0)",
		"x(1) | (0 | if 1 + if then 0 else 0)", "x() | abcdefghi()", "go and; 0", "watch p; watch then; 0",
	} {
		if e := term.Check(read(s)); e != api.ErrArg {
			t.Errorf("%s: %d", s, e)
		}
	}
}

// sum returns an expression of just so many nodes (an odd number), which is not deep.
func sum(nodes int) api.TermExp {
	if nodes < 3 {
		return num(1)
	}
	left := (nodes - 1) / 2
	if left%2 == 0 {
		left--
	}
	return api.TermExp{Op: api.TermAdd, Kids: []api.TermExp{sum(left), sum(nodes - 1 - left)}}
}

func send(s string, args ...api.TermExp) api.Term {
	return api.Term{Op: api.TermSend, Text: s, Args: args}
}

// P1.2: at most TermNodes nodes, and TermDepth depth.
func TestCheckLimits(t *testing.T) {
	goes := strings.Repeat("go p; ", 11)
	minus := func(n int) string { return strings.Repeat("1 - (", n) + "1" + strings.Repeat(")", n) }
	place := strings.Repeat("def place p { in ", 5)
	close := strings.Repeat(" } in 0", 5)
	for _, x := range []struct {
		s     string
		depth int
	}{
		{goes + "0", 12}, {goes + "go p; 0", 13}, {goes + "x(1)", 13}, {"x(" + minus(10) + ")", 12}, {"x(" + minus(11) + ")", 13},
		{"if " + minus(10) + " then 0 else 0", 12}, {"if " + minus(11) + " then 0 else 0", 13},
		{place + "go p; 0" + close, 12}, {place + "go p; x(1)" + close, 13},
		{strings.Repeat("def x() = ", 5) + "go p; 0" + strings.Repeat(" in 0", 5), 12},
		{strings.Repeat("def x() = ", 5) + "go p; go p; 0" + strings.Repeat(" in 0", 5), 13},
		{"def place a { place b { place c { place d { place e { place f { place g { place h { place i { place j { in 0 } in 0 } in 0 } in 0 } in 0 } in 0 } in 0 } in 0 } in 0 } in 0 } in 0", 12},
		{"def place a { place b { place c { place d { place e { place f { place g { place h { place i { place j { place k { in 0 } in 0 } in 0 } in 0 } in 0 } in 0 } in 0 } in 0 } in 0 } in 0 } in 0 } in 0", 13},
	} {
		d, e := term.Depth(read(x.s))
		if x.depth <= 12 && (d != x.depth || e != api.OK) || x.depth > 12 && (d != 0 || e != api.ErrArg) {
			t.Errorf("%s: %d %d, not %d", x.s, d, e, x.depth)
		}
		if f := term.Check(read(x.s)); f != e {
			t.Errorf("%s: %d and %d", x.s, f, e)
		}
	}
	five := rules(5)
	for i := range five {
		five[i].Kids = []api.Term{send("x", sum(9))}
	}
	for _, x := range []struct {
		t     api.Term
		nodes int
	}{
		{send("x", sum(29), sum(29)), 59}, {send("x", sum(29), sum(29), num(1)), 60}, {send("x", sum(29), sum(31)), 61}, {send("x", sum(29), sum(31), num(1)), 62},
		{api.Term{Op: api.TermDef, Defs: five, Kids: []api.Term{send("x", num(1), num(1), num(1))}}, 60},
		{api.Term{Op: api.TermDef, Defs: five, Kids: []api.Term{send("x", num(1), sum(3))}}, 61},
	} {
		n, e := term.Nodes(x.t)
		if x.nodes <= 60 && (n != x.nodes || e != api.OK) || x.nodes > 60 && (n != 0 || e != api.ErrArg) {
			t.Errorf("%d nodes: %d %d", x.nodes, n, e)
		}
		if f := term.Check(x.t); f != e {
			t.Errorf("%d nodes: %d and %d", x.nodes, f, e)
		}
	}
	for _, n := range []int{59, 61} {
		if e := term.CheckExp(sum(n)); (e == api.OK) != (n <= 60) {
			t.Errorf("an expression of %d nodes: %d", n, e)
		}
	}
	if e := term.CheckExp(readExp(minus(11))); e != api.OK {
		t.Error("an expression of depth 12:", e)
	}
	if e := term.CheckExp(readExp(minus(12))); e != api.ErrArg {
		t.Error("an expression of depth 13:", e)
	}
}

// P1.2
func TestNodesAndDepth(t *testing.T) {
	for _, x := range []struct {
		s            string
		nodes, depth int
	}{
		{"0", 1, 1}, {"stop", 1, 1}, {"x()", 1, 1}, {"x(1)", 2, 2}, {"x(1, a, 2)", 4, 2}, {"x(1 + a * 2, 3)", 7, 4},
		{"0 | x(1)", 4, 3}, {"if 1 < 2 then stop else go p; 0", 7, 3}, {"go p; watch q; 0", 3, 3},
		{"def x(a, b) & y(c) = 0 in 0", 4, 3}, {"def place p { in 0 } in 0", 4, 3},
		{"def place p { x() = stop and place q { in y(1) } in 0 } in 0", 9, 5}, {example, 13, 5},
	} {
		n, e := term.Nodes(read(x.s))
		d, f := term.Depth(read(x.s))
		if n != x.nodes || d != x.depth || e != api.OK || f != api.OK {
			t.Errorf("%s: %d %d %d %d", x.s, n, d, e, f)
		}
	}
	for i, u := range unformed() {
		n, e := term.Nodes(u)
		d, f := term.Depth(u)
		if n != 0 || d != 0 || e != api.ErrArg || f != api.ErrArg {
			t.Error(i, n, d, e, f)
		}
	}
}

// P1.2: nil and empty lists are the same.
func TestCheckEmpty(t *testing.T) {
	u := api.Term{Op: api.TermNil, Args: []api.TermExp{}, Defs: []api.TermClause{}, Kids: []api.Term{}}
	e := api.TermExp{Op: api.TermInt, Kids: []api.TermExp{}}
	r := api.TermClause{Form: api.TermRule, Joins: []api.TermMsg{{Text: "x", Names: []string{}}}, Defs: []api.TermClause{}, Kids: []api.Term{u}}
	p := api.TermClause{Form: api.TermPlace, Text: "p", Joins: []api.TermMsg{}, Defs: []api.TermClause{}, Kids: []api.Term{u}}
	d := api.Term{Op: api.TermDef, Args: []api.TermExp{}, Defs: []api.TermClause{r, p}, Kids: []api.Term{u}}
	if term.Check(u) != api.OK || term.CheckExp(e) != api.OK || term.Check(d) != api.OK {
		t.Error(term.Check(u), term.CheckExp(e), term.Check(d))
	}
}

// endless returns processes and an expression whose lists hold themselves, or far too much.
func endless() ([]api.Term, api.TermExp) {
	loop := api.Term{Op: api.TermGo, Text: "p", Kids: make([]api.Term, 1)}
	loop.Kids[0] = loop
	e := api.TermExp{Op: api.TermAdd, Kids: make([]api.TermExp, 2)}
	e.Kids[0], e.Kids[1] = e, e
	place := api.TermClause{Form: api.TermPlace, Text: "p", Defs: make([]api.TermClause, 1), Kids: nothings(1)}
	place.Defs[0] = place
	wide := api.Term{Op: api.TermNil}
	for range 40 {
		wide = api.Term{Op: api.TermPar, Kids: []api.Term{wide, wide}}
	}
	many := api.Term{Op: api.TermSend, Text: "x", Args: exps(1000)}
	for range 8 {
		many = api.Term{Op: api.TermPar, Kids: slices.Repeat([]api.Term{many}, 1000)}
	}
	return []api.Term{loop, {Op: api.TermSend, Text: "x", Args: []api.TermExp{e}}, {Op: api.TermDef, Defs: []api.TermClause{place}, Kids: nothings(1)}, wide, many}, e
}

// P1.2, and that all functions end for what has no end.
func TestEndless(t *testing.T) {
	l, e := endless()
	if f := term.CheckExp(e); f != api.ErrArg {
		t.Error(f)
	}
	if v, f := term.Put(read("0"), "x", e); f != api.ErrArg || !same(v, api.Term{}) {
		t.Error(f)
	}
	for i, u := range l {
		for k, f := range refused(u) {
			if f != api.ErrArg {
				t.Error(i, k, f)
			}
		}
	}
}

// refused returns the errors of all functions that take a process.
func refused(u api.Term) []api.Errno {
	_, a := term.Nodes(u)
	_, b := term.Depth(u)
	_, c := term.Free(u)
	_, _, d := term.Defines(u)
	_, e := term.Put(u, "x", num(1))
	_, f := term.Canon(u)
	_, g := term.Alike(u, u)
	_, h := term.Parts(u)
	_, i := term.Beside([]api.Term{u})
	_, j := term.Layout(u)
	return []api.Errno{term.Check(u), a, b, c, d, e, f, g, h, i, j}
}

// P1.2
func TestCheckMade(t *testing.T) {
	formedOnes(t, func(seed int64, u api.Term) {
		if e := term.Check(u); e != api.OK {
			t.Errorf("%d: %d: %v", seed, e, u)
		}
		wantNodes, wantDepth := size(u)
		n, e := term.Nodes(u)
		d, f := term.Depth(u)
		if n != wantNodes || d != wantDepth || e != api.OK || f != api.OK {
			t.Errorf("%d: %d %d, not %d %d: %v", seed, n, d, wantNodes, wantDepth, u)
		}
	})
}
