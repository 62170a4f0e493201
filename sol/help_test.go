package sol_test

import (
	"fmt"
	"slices"
	"strings"
	"testing"

	"cabotage/api"
	"cabotage/internal/sample"
	"cabotage/sol"
)

// example is the process of the chapter's examples.
const example = "def x(a) & y() = out(a) and place p { in stop } in x(1) | x(2) | y() | watch p; x(3)"

// rich is a process whose run has events of all kinds, and more than one group.
const rich = "def x(a) & y() = (def z(b) = out(a + b, b) in z(a) | y()) and place p { w(c) = go q; c(1) in w(x) | w(out) } and place q { in watch r; stop } and place r { place t { in stop } in (go t; 0) | (watch t; stop) } in x(4) | y() | (watch q; w(out)) | (watch t; go p; 0)"

// program is the program of a source.
func program(s string) api.ScopeProg {
	p, e := sample.Program(s)
	if e != api.OK {
		panic(fmt.Sprint(s, ": ", e))
	}
	return p
}

// beside writes a process so many times, without much depth.
func beside(s string, many int) string {
	if many == 1 {
		return s
	}
	return "(" + beside(s, many/2) + " | " + beside(s, many-many/2) + ")"
}

func integer(n int) api.SolVal { return api.SolVal{Kind: api.SolInt, N: n} }

func free(n int) api.SolVal { return api.SolVal{Kind: api.SolFree, N: n} }

func channel(n int) api.SolVal { return api.SolVal{Kind: api.SolChan, N: n} }

func place(n int) api.SolVal { return api.SolVal{Kind: api.SolPlace, N: n} }

// showVals writes values: integers as they are, the others as a letter and a number.
func showVals(l []api.SolVal) string {
	var out []string
	for _, v := range l {
		switch {
		case v.Kind >= api.SolInt && v.Kind <= api.SolPlace:
			out = append(out, []string{"", "f", "c", "p"}[v.Kind-api.SolInt]+fmt.Sprint(v.N))
		default:
			out = append(out, fmt.Sprint(v))
		}
	}
	return strings.Join(out, " ")
}

// show writes a solution: the Ins of its places, with a ! for a dead one; groups as definition@place[environment]; channels as group.index@place, with messages in brackets; what waits as node@place[environment].
func show(s api.Sol) string {
	var l []string
	for _, x := range s.Spots {
		l = append(l, fmt.Sprint(x.In, strings.Repeat("!", number(x.Dead))))
	}
	out := strings.Join(l, " ")
	for _, g := range s.Groups {
		out += fmt.Sprintf("; %d@%d[%s]", g.Def, g.At, showVals(g.Env))
	}
	for _, c := range s.Chans {
		out += fmt.Sprintf("; %d.%d@%d", c.Group, c.Index, c.At)
		for _, m := range c.Queue {
			out += "(" + showVals(m.Vals) + ")"
		}
	}
	for _, x := range s.Waits {
		out += fmt.Sprintf("; %d@%d[%s]", x.Node, x.At, showVals(x.Env))
	}
	return out
}

func number(is bool) int {
	if is {
		return 1
	}
	return 0
}

// showEvents writes events: each as its deed, At, and N; of SolTook the rule behind a dot; values in brackets where there can be any.
func showEvents(l []api.SolEvent) string {
	var out []string
	for _, x := range l {
		s := fmt.Sprint(x)
		switch {
		case x.Deed == api.SolTook:
			s = fmt.Sprintf("took %d %d.%d(%s)", x.At, x.N, x.M, showVals(x.Vals))
		case x.Deed == api.SolSaid && x.M == 0:
			s = fmt.Sprintf("said %d %d(%s)", x.At, x.N, showVals(x.Vals))
		case x.Deed == api.SolDied && x.N == 0 && x.M == 0 && len(x.Vals) == 0:
			s = fmt.Sprintf("died %d", x.At)
		case x.Deed > api.SolTook && x.Deed < api.SolSaid && x.M == 0 && len(x.Vals) == 0:
			s = fmt.Sprintf("%s %d %d", map[api.SolDeed]string{api.SolWent: "went", api.SolTold: "told"}[x.Deed], x.At, x.N)
		}
		out = append(out, s)
	}
	return strings.Join(out, ", ")
}

// showStep writes a step: as the process that waits, or as group.rule and the Picks.
func showStep(x api.SolStep) string {
	switch {
	case x.Wait == -1:
		return fmt.Sprint(x.Group, ".", x.Rule, x.Picks)
	case x.Group == 0 && x.Rule == 0 && len(x.Picks) == 0:
		return fmt.Sprint(x.Wait)
	}
	return fmt.Sprintf("%#v", x)
}

// copied returns a solution that shares no memory with s.
func copied(s api.Sol) api.Sol {
	s = api.Sol{Spots: slices.Clone(s.Spots), Groups: slices.Clone(s.Groups), Chans: slices.Clone(s.Chans), Waits: slices.Clone(s.Waits)}
	for i := range s.Groups {
		s.Groups[i].Env = slices.Clone(s.Groups[i].Env)
	}
	for i := range s.Chans {
		s.Chans[i].Queue = slices.Clone(s.Chans[i].Queue)
		for k := range s.Chans[i].Queue {
			s.Chans[i].Queue[k].Vals = slices.Clone(s.Chans[i].Queue[k].Vals)
		}
	}
	for i := range s.Waits {
		s.Waits[i].Env = slices.Clone(s.Waits[i].Env)
	}
	return s
}

// firstOf is the solution at first.
func firstOf(t *testing.T, p api.ScopeProg) api.Sol {
	t.Helper()
	s, _, e := sol.First(p)
	if e != api.OK {
		t.Fatal(p, e)
	}
	return s
}

// stepsOf are all steps of a solution.
func stepsOf(t *testing.T, p api.ScopeProg, s api.Sol) []api.SolStep {
	t.Helper()
	n, e := sol.Count(p, s)
	if e != api.OK {
		t.Fatal(p, show(s), e)
	}
	var l []api.SolStep
	for i := range n {
		x, e := sol.Nth(p, s, i)
		if e != api.OK {
			t.Fatal(p, show(s), i, e)
		}
		l = append(l, x)
	}
	return l
}

// behind is the solution behind a run.
func behind(t *testing.T, p api.ScopeProg, s api.Sol, picks ...int) api.Sol {
	t.Helper()
	s, _, e := sol.Run(p, s, picks)
	if e != api.OK {
		t.Fatal(p, picks, e)
	}
	return s
}

func sum(e api.ScopeExp, f api.ScopeExp) api.ScopeExp {
	return api.ScopeExp{Op: api.TermAdd, Kids: []api.ScopeExp{e, f}}
}

func num(n int) api.ScopeExp { return api.ScopeExp{Op: api.TermInt, N: n} }

func name(n int) api.ScopeExp { return api.ScopeExp{Op: api.TermName, N: n} }

func TestNotation(t *testing.T) {
	s := firstOf(t, program(example))
	if show(s) != "-1 0; 0@0[f0 c0 c1 p1]; 0.0@0(1)(2); 0.1@0(); 2@1[f0 c0 c1 p1]; 9@0[f0 c0 c1 p1]" || show(copied(s)) != show(s) {
		t.Error(show(s))
	}
	if l := showEvents([]api.SolEvent{{Deed: api.SolTook, At: 1, N: 2, M: 3, Vals: []api.SolVal{place(4)}}, {Deed: api.SolWent, At: 5, N: 6}, {Deed: api.SolDied, At: 7}, {Deed: api.SolTold, N: 8}, {Deed: api.SolSaid, Vals: []api.SolVal{free(0), integer(-1)}}}); l != "took 1 2.3(p4), went 5 6, died 7, told 0 8, said 0 0(f0 -1)" {
		t.Error(l)
	}
	if l := showStep(api.SolStep{Wait: 3}) + showStep(api.SolStep{Wait: -1, Group: 1, Rule: 2, Picks: []int{0, 3}}); l != "31.2 [0 3]" {
		t.Error(l)
	}
}
