package sol_test

import (
	"fmt"
	"strings"
	"testing"

	"cabotage/api"
	"cabotage/internal/sample"
	"cabotage/sol"
)

func written(l ...any) string { return fmt.Sprintf("%#v", l) }

// calls are calls of all functions, each with what it returns.
func calls(p api.ScopeProg, s api.Sol) []func() []any {
	x, picks := api.SolStep{Wait: -1, Rule: 1, Picks: []int{0}}, []int{1, 0, 2}
	env := []api.SolVal{integer(3), place(1)}
	return []func() []any{
		func() []any { return []any{sol.Check(p, s)} },
		func() []any { u, l, e := sol.First(p); return []any{u, l, e} },
		func() []any { n, e := sol.Count(p, s); return []any{n, e} },
		func() []any { y, e := sol.Nth(p, s, 3); return []any{y, e} },
		func() []any { u, l, e := sol.Do(p, s, x); return []any{u, l, e, x} },
		func() []any { u, l, e := sol.Run(p, s, picks); return []any{u, l, e, picks} },
		func() []any { v, e := sol.Value(sum(name(0), name(1)), env); return []any{v, e, env} },
		func() []any { l, e := sol.Within(s, 0); return []any{l, e} },
	}
}

// R4 and R8: no call changes an argument, and each depends on its arguments alone.
func TestMemoryOfArguments(t *testing.T) {
	p := program(rich)
	for _, s := range []api.Sol{firstOf(t, p), behind(t, p, firstOf(t, p), 0, 2, 3, 2)} {
		before := written(p, s)
		for i, call := range calls(p, s) {
			want := written(call()...)
			for range 20 {
				if got := written(call()...); got != want {
					t.Error(i, got, want)
				}
			}
			if written(p, s) != before {
				t.Fatal(i, "the arguments have become", p, show(s))
			}
		}
	}
}

// R4: what is returned shares no memory with an argument: not with what stays as it was, nor with what has moved.
func TestMemoryOfSolutions(t *testing.T) {
	p := program("def x(a, b) = x(b, a) | y(a) | out(a, b) and y(c) = (def z() = 0 in out(c) | (go c; 0)) and place p { in (watch q; 0) | stop } and place q { in (go p; out(p)) | stop } in x(1, out) | x(x, p) | y(2) | watch p; 0")
	for i, change := range []func(s api.Sol) (api.Sol, []api.SolEvent, api.Errno){
		func(s api.Sol) (api.Sol, []api.SolEvent, api.Errno) { return sol.First(p) },
		func(s api.Sol) (api.Sol, []api.SolEvent, api.Errno) { return sol.Run(p, s, nil) },
		func(s api.Sol) (api.Sol, []api.SolEvent, api.Errno) { return sol.Do(p, s, stepsOf(t, p, s)[0]) },
		func(s api.Sol) (api.Sol, []api.SolEvent, api.Errno) { return sol.Do(p, s, stepsOf(t, p, s)[1]) },
		func(s api.Sol) (api.Sol, []api.SolEvent, api.Errno) { return sol.Do(p, s, stepsOf(t, p, s)[3]) },
		func(s api.Sol) (api.Sol, []api.SolEvent, api.Errno) { return sol.Do(p, s, stepsOf(t, p, s)[5]) },
		func(s api.Sol) (api.Sol, []api.SolEvent, api.Errno) { return sol.Run(p, s, []int{4, 3, 5, 1, 4}) },
		func(s api.Sol) (api.Sol, []api.SolEvent, api.Errno) { return sol.Run(p, s, []int{1, 3, 5, 3, 0}) },
	} {
		s := firstOf(t, p)
		u, l, e := change(s)
		was, want := show(s), show(u)+showEvents(l)
		if e != api.OK {
			t.Fatal(i, e)
		}
		// What is overwritten of one list is in no other one.
		for k, long := range lists(u, l) {
			v, seen, _ := change(s)
			sample.Spoil(lists(v, seen)[k], integer(77))
			if n := strings.Count(show(v)+showEvents(seen), "77"); n != len(long) {
				t.Error(i, k, show(v), showEvents(seen))
			}
		}
		spoilSol(u, l)
		if show(s) != was {
			t.Error(i, "the argument has become", show(s))
		}
		u, l, _ = change(s)
		spoilSol(s, nil)
		if show(u)+showEvents(l) != want {
			t.Error(i, "the result has become", show(u), showEvents(l))
		}
	}
}

// R4: the queues of a solution share no memory: a longer one overwrites no other one.
func TestMemoryOfQueues(t *testing.T) {
	p := program("def x() = 0 and y() = x() | x() in x() | x() | y() | y() | y()")
	s := behind(t, p, firstOf(t, p), 0, 3)
	for k := range s.Chans {
		u := behind(t, p, s)
		q := u.Chans[k].Queue
		sample.Spoil(q, api.SolMsg{Vals: []api.SolVal{integer(78)}})
		u.Chans[k].Queue = s.Chans[k].Queue
		if show(u) != show(s) {
			t.Error(k, show(u))
		}
	}
	x, _ := sol.Nth(p, s, 3)
	sample.Spoil(x.Picks, 77)
	l, _ := sol.Within(s, 0)
	sample.Spoil(l, 77)
	if y, e := sol.Nth(p, s, 3); e != api.OK || showStep(y) != "0.1 [0]" {
		t.Error(showStep(y), e)
	}
}

// R3: nil and empty lists are the same.
func TestNilAndEmpty(t *testing.T) {
	p := program("def x() = y() and y() = x() in x() | stop")
	s := firstOf(t, p)
	u := copied(s)
	u.Chans[0].Queue[0].Vals = []api.SolVal{}
	u.Chans[1].Queue = []api.SolMsg{}
	p.Free = []string{}
	for _, x := range []api.SolStep{{Picks: []int{}}, {Wait: -1, Picks: []int{0}}} {
		v, l, e := sol.Do(p, s, x)
		w, m, f := sol.Do(p, u, x)
		if e != api.OK || f != api.OK || show(v) != show(w) || showEvents(l) != showEvents(m) {
			t.Error(show(v), show(w), e, f)
		}
	}
	q := program("0")
	for _, s := range []api.Sol{{Spots: []api.SolSpot{{In: -1}}}, {Spots: []api.SolSpot{{In: -1}}, Groups: []api.SolGroup{}, Chans: []api.SolQ{}, Waits: []api.SolWait{}}} {
		if n, e := sol.Count(q, s); n != 0 || e != api.OK {
			t.Error(n, e)
		}
	}
}
