package infer_test

import (
	"math/rand"
	"strings"
	"testing"

	"cabotage/api"
	"cabotage/infer"
)

// P4.4
func TestWith(t *testing.T) {
	for _, x := range []struct {
		s, l string
		want bool
	}{
		{procB, "chan(int), chan(chan(int))", true}, {procB, "chan(int), chan(int)", false}, {procB, "chan(0), chan(chan(0))", false}, {procD, "place", true}, {procD, "0", true}, {procD, "chan(chan(7), int)", true}, {procC, "chan(place)", false}, {procC, "chan(int)", true}, {procC, "0", false},
		{"0", "", true}, {large, "", true}, {"x(x)", "chan(0)", false}, {"x(x)", "0", false}, {"x(x)", "chan(chan(0))", false}, {"def x() = x(x) in 0", "", false}, {procA, "chan(int), int", false}, {procA, "chan(int), place", false},
		// variables are types of their own
		{"f(a)", "5, chan(5)", true}, {"f(a)", "5, chan(6)", false}, {"f(a)", "5, chan(int)", false}, {"f(a)", "int, chan(5)", false}, {"f(a)", "int, 0", false}, {"f(a)", "0, 0", false}, {"f(a)", "chan(1), chan(chan(1))", true}, {"f(a)", "chan(1), chan(chan(2))", false}, {"f(a)", "999, chan(999)", true},
		{"go p; 0", "0", false}, {"go p; 0", "place", true}, {"watch p; 0", "int", false}, {"if a then 0 else 0", "0", false}, {"if a then 0 else 0", "int", true}, {"if a == b then 0 else 0", "3, 3", true}, {"if a == b then 0 else 0", "3, 4", false}, {"x()", "chan()", true}, {"x()", "chan(int)", false}, {"x()", "0", false}, {"x(1)", "chan()", false},
		// they stay around
		{"def x(a) = f(a) in x(b)", "0, chan(0)", true}, {"def x(a) = f(a) in x(b)", "0, chan(1)", false}, {"def x(a) = f(a) in x(b) | x(c)", "0, 1, chan(0)", false}, {"def x(a) = 0 in x(b) | x(c)", "0, 1", true}, {"def x(a) & y(b) = 0 in x(c) | y(d)", "0, 1", true}, {"def x(a) & y(b) = if a == b then 0 else 0 in x(c) | y(d)", "0, 1", false}, {"def x(a) & y(b) = if a == b then 0 else 0 in x(c) | y(d)", "0, 0", true}, {"def x(a) & y(b) = if a == b then 0 else 0 in x(c) | y(d)", "int, 0", false},
	} {
		if is, e := infer.With(process(x.s), types(x.l)); e != api.OK || is != x.want {
			t.Error(x.s, x.l, is, e)
		}
	}
}

// P4.4: lists that are none for a process.
func TestWithWrong(t *testing.T) {
	for i, x := range []struct {
		s string
		l []api.InferType
	}{{procD, nil}, {procD, types("int, int")}, {"0", types("int")}, {procA, types("int")}, {procB, types("chan(int), chan(chan(int)), 0")}, {"x(x)", nil}} {
		if is, e := infer.With(process(x.s), x.l); is || e != api.ErrArg {
			t.Error(i, is, e)
		}
	}
	for i, x := range noTypes() {
		for _, l := range [][]api.InferType{{x, ty("0")}, {ty("0"), x}} {
			if is, e := infer.With(process("f(a)"), l); is || e != api.ErrArg {
				t.Error(i, is, e)
			}
			if is, e := infer.With(process("a(a) | b()"), l); is || e != api.ErrArg {
				t.Error(i, is, e)
			}
		}
	}
	for i, u := range unformed() {
		for _, l := range [][]api.InferType{nil, types("int"), noTypes()} {
			if is, e := infer.With(u, l); is || e != api.ErrArg {
				t.Error(i, is, e)
			}
		}
	}
}

// P4.4: the types are principal.
func TestWithMade(t *testing.T) {
	yes, no := 0, 0
	processes(t, 1500, func(seed int64, u api.Term) {
		m := &made{Rand: rand.New(rand.NewSource(seed))}
		y, e := infer.Infer(u)
		many := len(typing(u, nil, always).free)
		for range 6 {
			var l []api.InferType
			for range many {
				l = append(l, m.someType(9))
			}
			if e == api.OK && m.Intn(5) > 0 {
				l = m.someInstance(y.Free)
			}
			is, f := infer.With(u, l)
			want := !typing(u, l, always).wrong
			if f != api.OK || is != want {
				t.Error(seed, source(u), showAll(l), is, f)
			}
			if match, _ := infer.Instance(y.Free, l); is != (e == api.OK && match) {
				t.Error(seed, source(u), showAll(y.Free), e, showAll(l), is)
			}
			if is {
				yes++
			} else {
				no++
			}
		}
	})
	if yes < 1000 || no < 1000 {
		t.Error("too few of one kind:", yes, no)
	}
}

// someInstance returns an instance of some types, or now and then something else.
func (m *made) someInstance(l []api.InferType) []api.InferType {
	of := map[int]api.InferType{}
	var out []api.InferType
	for _, x := range l {
		out = append(out, putIn(x, func(n int) api.InferType {
			if _, ok := of[n]; !ok || m.Intn(20) == 0 {
				of[n] = m.someType(5)
			}
			return of[n]
		}))
	}
	if len(out) > 0 && m.Intn(4) == 0 {
		s := strings.Replace(showAll(out), "int", "place", 1)
		out = types(s)
	}
	return out
}
