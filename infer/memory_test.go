package infer_test

import (
	"fmt"
	"slices"
	"testing"

	"cabotage/api"
	"cabotage/infer"
)

func spoil(l []api.InferType) {
	l = l[:cap(l)] // nothing of another list lies behind this one
	for i := range l {
		spoil(l[i].Kids)
		l[i].Op, l[i].N = 77, 77
	}
}

func spoilTyping(y api.InferTyping) {
	spoil(y.Free)
	for _, d := range y.Defs {
		for i := range d {
			spoil(d[i].Type.Kids)
			for k := range d[i].All {
				d[i].All[k] = 77
			}
			d[i].Type.Op = 77
		}
	}
}

// text writes all that there is in a value.
func text(x any) string { return fmt.Sprintf("%#v", x) }

const many = "f(a) | g(a) | def x(b, c) & y(d) = z(b, b) and z(e, h) = x(e, h) and place p { w(m) = f(m) in go p; x(1 + 2, p) } in z(x, x) | watch p; if y == y then 0 else w(3)"

// P4.1 to P4.4: arguments stay as they are, and a call depends on them alone (R4, R8).
func TestMemoryOfProcesses(t *testing.T) {
	u := process(many)
	before := text(u)
	for i, call := range []func(u api.Term) string{
		func(u api.Term) string { l, e := infer.Demands(u); return text(l) + text(e) },
		func(u api.Term) string { is, e := infer.Types(u, list(5)); return text(is) + text(e) },
		func(u api.Term) string { y, e := infer.Infer(u); defer spoilTyping(y); return showTyping(y) + text(e) },
		func(u api.Term) string { l, e := infer.Explain(u); return text(l) + text(e) },
		func(u api.Term) string {
			is, e := infer.With(u, types("int, chan(int), chan(int)"))
			return text(is) + text(e)
		},
	} {
		want := call(u)
		for range 20 {
			if got := call(process(many)); got != want {
				t.Fatal(i, got, want)
			}
		}
		if text(u) != before {
			t.Fatal(i, "the argument has become", u)
		}
	}
}

// P4.2: no lists of a result share memory, even where types are the same.
func TestMemoryOfInfer(t *testing.T) {
	u := process("f(a) | g(a) | a(1) | def x(b, c) = y(b, c, x) and y(d, e, k) = 0 in 0")
	y, e := infer.Infer(u)
	if e != api.OK {
		t.Fatal(e)
	}
	before := showTyping(y)
	parts := []*[]api.InferType{&y.Free[0].Kids, &y.Free[1].Kids, &y.Free[2].Kids, &y.Defs[0][0].Type.Kids, &y.Defs[0][1].Type.Kids}
	for i, l := range parts {
		var was []string
		for _, k := range parts {
			was = append(was, showAll(*k))
		}
		old := types(showAll(*l))
		spoil(*l)
		for k, other := range parts {
			if k != i && showAll(*other) != was[k] {
				t.Error(before, i, k)
			}
		}
		*l = old
	}
	if showTyping(y) != before {
		t.Error(showTyping(y), before)
	}
}

// P4.4 and P4.5: lists of types.
func TestMemoryOfTypes(t *testing.T) {
	a, b := ty("chan(0, chan(int), 0)"), ty("chan(chan(1), 2, chan(place))")
	y, is, e := infer.Unify(a, b)
	if want := "chan(chan(place), chan(int), chan(place))"; !is || e != api.OK || show(y) != want {
		t.Fatal(show(y), e)
	}
	spoil(y.Kids[0].Kids)
	if show(y.Kids[2]) != "chan(place)" || show(a) != "chan(0, chan(int), 0)" || show(b) != "chan(chan(1), 2, chan(place))" {
		t.Error(show(y), show(a), show(b))
	}
	y, _, _ = infer.Unify(a, b)
	spoil(a.Kids)
	spoil(b.Kids)
	if show(y) != "chan(chan(place), chan(int), chan(place))" {
		t.Error(show(y))
	}
	l, k := types("0, chan(0)"), types("chan(3), chan(chan(3))")
	infer.Instance(l, k)
	infer.With(process("f(a)"), k)
	if showAll(l) != "0, chan(0)" || showAll(k) != "chan(3), chan(chan(3))" {
		t.Error(showAll(l), showAll(k))
	}
	some := []int{0, 2, 3}
	infer.Types(process(procA), some)
	if !slices.Equal(some, []int{0, 2, 3}) {
		t.Error(some)
	}
}
