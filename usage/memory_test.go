package usage_test

import (
	"fmt"
	"testing"

	"cabotage/api"
	"cabotage/usage"
)

func written(x any) string { return fmt.Sprintf("%#v", x) }

// R4 and R8: no call changes an argument, and each depends on its arguments alone.
func TestMemoryOfArguments(t *testing.T) {
	p, u := program(example), table(found)
	before := written(p) + written(u)
	for i, call := range []func() string{
		func() string { k, e := usage.Sends(p, u, 0, 0); return written(k) + written(e) },
		func() string { n, e := usage.Sure(p, 5, 2); return written(n) + written(e) },
		func() string { l, e := usage.Table(p); return written(l) + written(e) },
		func() string { is, e := usage.Accepts(p, u); return written(is) + written(e) },
	} {
		want := call()
		for range 20 {
			if got := call(); got != want {
				t.Error(i, got, want)
			}
		}
		if written(p)+written(u) != before {
			t.Fatal(i, "the arguments have become", p, u)
		}
	}
}

// R4: a table shares no memory with another one, and its lists share none with each other.
func TestMemoryOfTable(t *testing.T) {
	p := program(example)
	u, _ := usage.Table(p)
	for _, l := range lists(u) {
		whole := l[:cap(l)] // nothing of another list lies behind this one
		was := append([]api.UsageKind(nil), whole...)
		for i := range whole {
			whole[i] = 77
		}
		other := 0
		for _, k := range lists(u) {
			for _, x := range k {
				if x == 77 {
					other++
				}
			}
		}
		if other != len(l) {
			t.Error("other lists are overwritten:", u)
		}
		copy(whole, was)
	}
	for i := range u {
		u[i].Args = append(u[i].Args[:0], kinds("0"))
		u[i].Chans[0] = 77
	}
	if v, e := usage.Table(p); e != api.OK || show(v) != found {
		t.Error(show(v), e)
	}
}

// lists are all lists of kinds of a table.
func lists(t []api.UsageDef) [][]api.UsageKind {
	var l [][]api.UsageKind
	for _, u := range t {
		l = append(l, u.Chans, u.Rules)
		l = append(l, u.Args...)
	}
	return l
}

// R3: nil and empty lists are the same.
func TestNilAndEmpty(t *testing.T) {
	p := program("def place p { x() = 0 in 0 } in def place q { in 0 } in q()")
	for _, u := range [][]api.UsageDef{
		{{Chans: kinds("0"), Rules: kinds("0"), Args: [][]api.UsageKind{nil}}, {}},
		{{Chans: kinds("0"), Rules: kinds("0"), Args: [][]api.UsageKind{{}}}, {Chans: []api.UsageKind{}, Rules: []api.UsageKind{}, Args: [][]api.UsageKind{}}},
	} {
		if !accepts(t, p, u) {
			t.Error(show(u))
		}
	}
	if !accepts(t, program("0"), nil) || !accepts(t, program("0"), []api.UsageDef{}) {
		t.Error("nothing is not accepted")
	}
}
