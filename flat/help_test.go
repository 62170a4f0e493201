package flat_test

import (
	"fmt"
	"math/rand"
	"slices"
	"strings"
	"testing"

	"cabotage/api"
	"cabotage/flat"
	"cabotage/internal/sample"
)

// example is the program P of the chapter.
const example = "def x(a) & y() = out(a) and place p { in stop } in go p; (x(1) | log(2))"

// rich has something of all kinds, in each other.
const rich = "def x(a) & y() = (def z(b) = out(a + b, b) in z(a) | y()) and place p { w(c) = go q; c(1) in w(x) | w(out) } and place q { in watch r; stop } and place r { place t { in stop } in (go t; 0) | (watch t; stop) } in x(4) | y() | (watch q; w(out)) | (if x == 1 then 0 else watch t; go p; log(p))"

// What the tests have of package sample.
var (
	show, showEvents    = sample.Show, sample.Events
	showStep, showSteps = sample.Step, sample.Steps
	copied              = sample.Copied
)

// program is the program of a source.
func program(s string) api.ScopeProg {
	p, e := sample.Program(s)
	if e != api.OK {
		panic(fmt.Sprint(s, ": ", e))
	}
	return p
}

// written writes anything; nil and empty lists alike.
func written(l ...any) string { return fmt.Sprint(l...) }

func integer(n int) api.SolVal { return api.SolVal{Kind: api.SolInt, N: n} }

func free(n int) api.SolVal { return api.SolVal{Kind: api.SolFree, N: n} }

func channel(n int) api.SolVal { return api.SolVal{Kind: api.SolChan, N: n} }

func place(n int) api.SolVal { return api.SolVal{Kind: api.SolPlace, N: n} }

func number(is bool) int {
	if is {
		return 1
	}
	return 0
}

// listed writes the lists that are not empty, each behind its number.
func listed(l [][]int) string {
	var out []string
	for i, x := range l {
		if len(x) > 0 {
			out = append(out, fmt.Sprint(i, x))
		}
	}
	return strings.Join(out, " ")
}

// takes writes what a flat program takes: for Main, and behind a bar for each node that takes something.
func takes(f api.FlatProg) string {
	var l [][]int
	for _, n := range f.Nodes {
		l = append(l, n.Take)
	}
	return strings.TrimSpace(fmt.Sprint(f.Take) + " | " + listed(l))
}

// flatOf is the flat program of a source.
func flatOf(t *testing.T, source string) api.FlatProg {
	t.Helper()
	f, e := flat.Flat(program(source))
	if e != api.OK {
		t.Fatal(source, e)
	}
	return f
}

// firstOf is the flat solution at first.
func firstOf(t *testing.T, f api.FlatProg) api.Sol {
	t.Helper()
	s, _, e := flat.First(f)
	if e != api.OK {
		t.Fatal(f, e)
	}
	return s
}

// behind is the flat solution behind a run.
func behind(t *testing.T, f api.FlatProg, s api.Sol, picks ...int) api.Sol {
	t.Helper()
	s, _, e := flat.Run(f, s, picks)
	if e != api.OK {
		t.Fatal(f, picks, e)
	}
	return s
}

// stepsOf are all steps of a flat solution.
func stepsOf(t *testing.T, f api.FlatProg, s api.Sol) []api.SolStep {
	t.Helper()
	n, e := flat.Count(f, s)
	if e != api.OK {
		t.Fatal(f, show(s), e)
	}
	var l []api.SolStep
	for i := range n {
		x, e := flat.Nth(f, s, i)
		if e != api.OK {
			t.Fatal(f, show(s), i, e)
		}
		l = append(l, x)
	}
	return l
}

// copiedExps and copiedFlat return what shares no memory with what they are given.
func copiedExps(l []api.ScopeExp) []api.ScopeExp {
	l = slices.Clone(l)
	for i := range l {
		l[i].Kids = copiedExps(l[i].Kids)
	}
	return l
}

func copiedFlat(f api.FlatProg) api.FlatProg {
	f = api.FlatProg{Free: slices.Clone(f.Free), Take: slices.Clone(f.Take), Nodes: slices.Clone(f.Nodes), Defs: copiedDefs(f.Defs), Main: f.Main}
	for i := range f.Nodes {
		n := &f.Nodes[i]
		n.Args, n.Kids, n.Take = copiedExps(n.Args), slices.Clone(n.Kids), slices.Clone(n.Take)
	}
	return f
}

func copiedDefs(l []api.ScopeDef) []api.ScopeDef {
	l = slices.Clone(l)
	for i := range l {
		d := &l[i]
		d.Chans, d.Spots, d.Rules = slices.Clone(d.Chans), slices.Clone(d.Spots), slices.Clone(d.Rules)
		for k := range d.Rules {
			d.Rules[k].Joins = slices.Clone(d.Rules[k].Joins)
		}
	}
	return l
}

// programs calls f with programs by chance.
func programs(t *testing.T, many int, f func(seed int64, r *rand.Rand, p api.ScopeProg)) {
	t.Helper()
	for seed := int64(0); seed < int64(many) && !t.Failed(); seed++ {
		r := rand.New(rand.NewSource(seed))
		f(seed, r, sample.Made(r.Intn, func() string {
			switch seed % 4 {
			case 0:
				return sample.Mortal(r.Intn)
			case 1:
				return sample.Source(r.Intn, sample.Plain)
			}
			return sample.Source(r.Intn, sample.Lively)
		}))
	}
}
