package sol_test

import (
	"fmt"
	"testing"

	"cabotage/api"
	"cabotage/internal/sample"
	"cabotage/sol"
)

// example is the process of the chapter's examples.
const example = "def x(a) & y() = out(a) and place p { in stop } in x(1) | x(2) | y() | watch p; x(3)"

// rich is a process whose run has events of all kinds, and more than one group.
const rich = "def x(a) & y() = (def z(b) = out(a + b, b) in z(a) | y()) and place p { w(c) = go q; c(1) in w(x) | w(out) } and place q { in watch r; stop } and place r { place t { in stop } in (go t; 0) | (watch t; stop) } in x(4) | y() | (watch q; w(out)) | (watch t; go p; 0)"

// program is the program of a source.
func program(s string) api.ScopeProg {
	p, e := sample.Program(s)
	if e != api.OK {
		panic(fmt.Sprint(s, ": ", e))
	}
	return p
}

// What the tests have of package sample.
var (
	show, showVals, showEvents = sample.Show, sample.Vals, sample.Events
	showStep, showSteps        = sample.Step, sample.Steps
	copied, lists, spoilSol    = sample.Copied, sample.Lists, sample.SpoilSol
	beside                     = sample.Beside
	spread, linked, stopping   = sample.Spread, sample.Linked, sample.Stopping
	crowded                    = sample.Crowded
)

func integer(n int) api.SolVal { return api.SolVal{Kind: api.SolInt, N: n} }

func free(n int) api.SolVal { return api.SolVal{Kind: api.SolFree, N: n} }

func channel(n int) api.SolVal { return api.SolVal{Kind: api.SolChan, N: n} }

func place(n int) api.SolVal { return api.SolVal{Kind: api.SolPlace, N: n} }

func number(is bool) int {
	if is {
		return 1
	}
	return 0
}

// firstOf is the solution at first.
func firstOf(t *testing.T, p api.ScopeProg) api.Sol {
	t.Helper()
	s, _, e := sol.First(p)
	if e != api.OK {
		t.Fatal(p, e)
	}
	return s
}

// stepsOf are all steps of a solution.
func stepsOf(t *testing.T, p api.ScopeProg, s api.Sol) []api.SolStep {
	t.Helper()
	n, e := sol.Count(p, s)
	if e != api.OK {
		t.Fatal(p, show(s), e)
	}
	var l []api.SolStep
	for i := range n {
		x, e := sol.Nth(p, s, i)
		if e != api.OK {
			t.Fatal(p, show(s), i, e)
		}
		l = append(l, x)
	}
	return l
}

// behind is the solution behind a run.
func behind(t *testing.T, p api.ScopeProg, s api.Sol, picks ...int) api.Sol {
	t.Helper()
	s, _, e := sol.Run(p, s, picks)
	if e != api.OK {
		t.Fatal(p, picks, e)
	}
	return s
}

func sum(e api.ScopeExp, f api.ScopeExp) api.ScopeExp {
	return api.ScopeExp{Op: api.TermAdd, Kids: []api.ScopeExp{e, f}}
}

func num(n int) api.ScopeExp { return api.ScopeExp{Op: api.TermInt, N: n} }

func name(n int) api.ScopeExp { return api.ScopeExp{Op: api.TermName, N: n} }

func TestNotation(t *testing.T) {
	s := firstOf(t, program(example))
	if show(s) != "-1 0; 0@0[f0 c0 c1 p1]; 0.0@0(1)(2); 0.1@0(); 2@1[f0 c0 c1 p1]; 9@0[f0 c0 c1 p1]" || show(copied(s)) != show(s) {
		t.Error(show(s))
	}
	if l := showEvents([]api.SolEvent{{Deed: api.SolTook, At: 1, N: 2, M: 3, Vals: []api.SolVal{place(4)}}, {Deed: api.SolWent, At: 5, N: 6}, {Deed: api.SolDied, At: 7}, {Deed: api.SolTold, N: 8}, {Deed: api.SolSaid, Vals: []api.SolVal{free(0), integer(-1)}}}); l != "took 1 2.3(p4), went 5 6, died 7, told 0 8, said 0 0(f0 -1)" {
		t.Error(l)
	}
	if l := showStep(api.SolStep{Wait: 3}) + showStep(api.SolStep{Wait: -1, Group: 1, Rule: 2, Picks: []int{0, 3}}); l != "31.2 [0 3]" {
		t.Error(l)
	}
}
