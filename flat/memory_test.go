package flat_test

import (
	"fmt"
	"math/rand"
	"reflect"
	"testing"

	"cabotage/api"
	"cabotage/flat"
)

// call is a call of a function, with what it returns.
type call struct {
	name string
	do   func() []any
}

// calls are calls of all functions.
func calls(p api.ScopeProg, f api.FlatProg, full, s api.Sol, x api.SolStep, picks []int) []call {
	return []call{
		{"Check", func() []any { return []any{flat.Check(f)} }},
		{"Lists", func() []any { l, e := flat.Lists(f); return []any{l, e} }},
		{"Flat", func() []any { q, e := flat.Flat(p); return []any{q, e} }},
		{"Open", func() []any { q, e := flat.Open(f); return []any{q, e} }},
		{"Spare", func() []any { n, e := flat.Spare(f); return []any{n, e} }},
		{"CheckSol", func() []any { return []any{flat.CheckSol(f, s)} }},
		{"Of", func() []any { u, e := flat.Of(f, full); return []any{u, e} }},
		{"Fill", func() []any { u, e := flat.Fill(f, s); return []any{u, e} }},
		{"Held", func() []any { return []any{flat.Held(s)} }},
		{"First", func() []any { u, l, e := flat.First(f); return []any{u, l, e} }},
		{"Count", func() []any { n, e := flat.Count(f, s); return []any{n, e} }},
		{"Nth", func() []any { x, e := flat.Nth(f, s, 0); return []any{x, e} }},
		{"Do", func() []any { u, l, e := flat.Do(f, s, x); return []any{u, l, e} }},
		{"Run", func() []any { u, l, e := flat.Run(f, s, picks); return []any{u, l, e} }},
		{"Run by nothing", func() []any { u, l, e := flat.Run(f, s, nil); return []any{u, l, e} }},
	}
}

// stretch is the memory of a list, from its first byte to below the one behind what it can grow to.
type stretch struct{ from, to uintptr }

// memory are the stretches of all lists that something refers to.
func memory(v reflect.Value) []stretch {
	var l []stretch
	switch v.Kind() {
	case reflect.Struct:
		for i := range v.NumField() {
			l = append(l, memory(v.Field(i))...)
		}
	case reflect.Slice:
		if v.Cap() > 0 {
			l = append(l, stretch{v.Pointer(), v.Pointer() + uintptr(v.Cap())*v.Type().Elem().Size()})
		}
		for i := range v.Len() {
			l = append(l, memory(v.Index(i))...)
		}
	case reflect.Interface:
		return memory(v.Elem())
	}
	return l
}

// shares reports whether a stretch of l shares memory with one of m, or with another one of l.
func shares(l, m []stretch) bool {
	for i, a := range l {
		for _, b := range append(l[:i:i], m...) {
			if a.from < b.to && b.from < a.to {
				return true
			}
		}
	}
	return false
}

// heldApart holds all functions against R4 and R8: no call changes an argument, or depends on anything else, and what it returns shares no memory with its arguments, or with itself.
func heldApart(t *testing.T, p api.ScopeProg, f api.FlatProg, full, s api.Sol, x api.SolStep, picks []int) {
	t.Helper()
	arguments := []any{p, f, full, s, x, picks}
	before := fmt.Sprintf("%#v", arguments)
	for _, c := range calls(p, f, full, s, x, picks) {
		first := c.do()
		if shares(memory(reflect.ValueOf(first)), memory(reflect.ValueOf(arguments))) {
			t.Fatal(c.name, "shares memory:", f, show(s))
		}
		for range 3 {
			if again := c.do(); !reflect.DeepEqual(first, again) {
				t.Fatal(c.name, first, again)
			}
		}
		if fmt.Sprintf("%#v", arguments) != before {
			t.Fatal(c.name, "has changed an argument:", f, show(s))
		}
	}
}

// R4 and R8: a run in which everything happens.
func TestMemory(t *testing.T) {
	for _, p := range []api.ScopeProg{
		program(rich), program(example),
		program("def x(a, b) = x(b, a) | y(a) | out(a, b) and y(c) = (def z() = 0 in out(c) | (go c; 0)) and place p { in (watch q; 0) | stop } and place q { in (go p; out(p)) | stop } in x(1, out) | x(x, p) | y(2) | watch p; 0"),
	} {
		r := rand.New(rand.NewSource(1))
		u := treeOf(p)
		for _, x := range []takings{u.least(), loosened(r, u), loosened(r, u)} {
			f := u.laid(x)
			y, _ := read(f)
			s := firstOf(t, f)
			for range 12 {
				full, _ := y.filled(s)
				for _, step := range append(stepsOf(t, f, s), api.SolStep{Wait: -3}) {
					heldApart(t, p, f, full, s, step, []int{r.Intn(20), r.Intn(20), r.Intn(20)})
				}
				s = behind(t, f, s, r.Intn(20))
			}
		}
	}
}

// R4 and R8: programs and solutions by chance.
func TestMemoryOfMade(t *testing.T) {
	solutions(t, 25, func(seed int64, r *rand.Rand, p api.ScopeProg, f api.FlatProg, s api.Sol) {
		y, _ := read(f)
		v := y.flattened(s)
		x := api.SolStep{}
		if l := stepsOf(t, f, v); len(l) > 0 {
			x = l[r.Intn(len(l))]
		}
		heldApart(t, p, f, s, v, x, []int{r.Intn(20), r.Intn(20), r.Intn(20), r.Intn(20)})
	})
}

// R3: nil and empty lists are the same.
func TestNilAndEmpty(t *testing.T) {
	none := []int{}
	f := api.FlatProg{
		Nodes: []api.FlatNode{{Op: api.TermDef, Kids: []int{1}}, {Op: api.TermPar, Kids: []int{2, 3}}, {Op: api.TermStop}, {Op: api.TermSend}, {Op: api.TermNil}},
		Defs:  []api.ScopeDef{{Chans: make([]api.ScopeChan, 1), Rules: []api.ScopeRule{{Joins: []int{0}, Node: 4}}}},
	}
	g := copiedFlat(f)
	g.Free, g.Take, g.Defs[0].Spots = []string{}, none, []api.ScopeSpot{}
	for i := range g.Nodes {
		n := &g.Nodes[i]
		n.Args, n.Take = []api.ScopeExp{}, none
		if n.Kids == nil {
			n.Kids = none
		}
	}
	s := firstOf(t, f)
	u := copied(s)
	u.Waits[0].Env, u.Chans[0].Queue[0].Vals = []api.SolVal{}, []api.SolVal{}
	p, _ := flat.Open(f)
	full, _ := flat.Fill(f, s)
	for _, step := range []api.SolStep{{Picks: none}, {Wait: -1, Picks: []int{0}}} {
		l, m := calls(p, f, full, s, step, nil), calls(p, g, full, u, step, none)
		for i := range l {
			if a, b := written(l[i].do()...), written(m[i].do()...); a != b {
				t.Error(l[i].name, a, b)
			}
		}
	}
	if e := flat.CheckSol(g, u); e != api.OK {
		t.Error(e)
	}
}
