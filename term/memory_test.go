package term_test

import (
	"testing"

	"cabotage/api"
	"cabotage/term"
)

// spoil overwrites all that a process refers to.
func spoil(t *api.Term) {
	t.Op, t.Text = 77, "spoilt"
	for i := range t.Args {
		spoilExp(&t.Args[i])
	}
	spoilClauses(t.Defs)
	for i := range t.Kids {
		spoil(&t.Kids[i])
	}
}

func spoilExp(e *api.TermExp) {
	e.Op, e.N, e.Text = 77, 77, "spoilt"
	for i := range e.Kids {
		spoilExp(&e.Kids[i])
	}
}

func spoilClauses(l []api.TermClause) {
	for i := range l {
		l[i].Form, l[i].Text = 77, "spoilt"
		for k := range l[i].Joins {
			l[i].Joins[k].Text = "spoilt"
			for n := range l[i].Joins[k].Names {
				l[i].Joins[k].Names[n] = "spoilt"
			}
		}
		spoilClauses(l[i].Defs)
		for k := range l[i].Kids {
			spoil(&l[i].Kids[k])
		}
	}
}

const large = "def x(a) & y() = z(a + 1, b) | 0 and place p { u(c) = z(c, b) and place q { in 0 } in go q; x(1) } in (y() | 0) | watch p; if 1 < 2 then x(b * 2) else 0"

// Results share no memory with arguments (P1.4 to P1.6, R4), and nothing of these changes.
func TestMemory(t *testing.T) {
	e := readExp("x + (a - c)")
	for i, f := range []func(u api.Term) api.Term{
		func(u api.Term) api.Term { v, _ := term.Put(u, "b", e); return v },
		func(u api.Term) api.Term { v, _ := term.Put(u, "w", e); return v },
		func(u api.Term) api.Term { v, _ := term.Canon(u); return v },
		func(u api.Term) api.Term { v, _ := term.Layout(u); return v },
		func(u api.Term) api.Term { v, _ := term.Beside([]api.Term{u}); return v },
		func(u api.Term) api.Term { v, _ := term.Beside([]api.Term{u, read("0")}); return v },
		func(u api.Term) api.Term { v, _ := term.Parts(u); return v[0] },
	} {
		u := read(large)
		v := f(u)
		if v.Op == 0 || !same(u, read(large)) {
			t.Errorf("%d: the argument has become %v", i, u)
		}
		spoil(&v)
		if !same(u, read(large)) || !same(e, readExp("x + (a - c)")) {
			t.Errorf("%d: the argument shares memory with the result", i)
		}
		v = f(u)
		w := text(v)
		spoil(&u)
		if text(v) != w {
			t.Errorf("%d: the result shares memory with the argument", i)
		}
	}
	u := read(large)
	for range 2 {
		free, _ := term.Free(u)
		channels, places, _ := term.Defines(u)
		if !same(free, []string{"b", "z"}) || !same(channels, []string{"x", "y", "u"}) || !same(places, []string{"p", "q"}) {
			t.Error(free, channels, places)
		}
		free[0], channels[0], places[0] = "spoilt", "spoilt", "spoilt"
	}
}

// The parts of a result share no memory with each other (R4), nor with anything that was put in.
func TestMemoryOfParts(t *testing.T) {
	e := readExp("c + 1")
	v, _ := term.Put(read("x(b, b)"), "b", e)
	spoilExp(&v.Args[0])
	if !same(v.Args[1], readExp("c + 1")) || !same(e, readExp("c + 1")) {
		t.Error(v, e)
	}
	v, _ = term.Put(read("x(b)"), "b", e)
	spoilExp(&e)
	if !same(v, read("x(c + 1)")) {
		t.Error(v)
	}
	u := read(example)
	v, _ = term.Beside([]api.Term{u, u})
	spoil(&v.Kids[0])
	if !same(v.Kids[1], read(example)) {
		t.Error(v)
	}
	l := []api.Term{u, u}
	v, _ = term.Beside(l)
	v.Kids[0] = read("stop")
	if !same(l, []api.Term{read(example), read(example)}) {
		t.Error(l)
	}
	parts, _ := term.Parts(api.Term{Op: api.TermPar, Kids: l})
	spoil(&parts[0])
	if len(parts) != 2 || !same(parts[1], read(example)) {
		t.Error(parts)
	}
}

// With an error all other results are zero values (R2).
func TestZero(t *testing.T) {
	for i, u := range unformed() {
		for k, e := range refused(u) {
			if e != api.ErrArg {
				t.Error(i, k, e)
			}
		}
		if v, e := term.Beside([]api.Term{read("0"), u}); e != api.ErrArg || !same(v, api.Term{}) {
			t.Error(i, e, v)
		}
	}
}
