package usage_test

import (
	"fmt"
	"slices"
	"strings"
	"testing"

	"cabotage/api"
	"cabotage/internal/sample"
)

// example is the process of the chapter's examples.
const example = "def x(a) = a(1) | a(2) and y(b) & z(c) = b(c) in y(out) | z(x) | def w() = x(out) in w()"

// program is the program of a source.
func program(s string) api.ScopeProg {
	p, e := sample.Program(s)
	if e != api.OK {
		panic(fmt.Sprint(s, ": ", e))
	}
	return p
}

// signs are how the tests write kinds: UsageNever, UsageOnce, UsageMost and UsageMany.
const signs = "0!1*"

func kind(sign byte) api.UsageKind { return api.UsageKind(1 + strings.IndexByte(signs, sign)) }

func kinds(s string) []api.UsageKind {
	var l []api.UsageKind
	for i := range len(s) {
		l = append(l, kind(s[i]))
	}
	return l
}

// table reads a table: for each definition its Chans, Rules and Args with a / between them, and a comma between the Args of channels.
func table(s string) []api.UsageDef {
	var t []api.UsageDef
	for _, x := range strings.Fields(s) {
		f := strings.Split(x, "/")
		u := api.UsageDef{Chans: kinds(f[0]), Rules: kinds(f[1])}
		for _, l := range strings.Split(f[2], ",")[:len(f[0])] {
			u.Args = append(u.Args, kinds(l))
		}
		t = append(t, u)
	}
	return t
}

func showKinds(l []api.UsageKind) string {
	s := ""
	for _, k := range l {
		if k < 1 || int(k) > len(signs) {
			return s + fmt.Sprint("(", int(k), ")")
		}
		s += signs[k-1 : k]
	}
	return s
}

// show writes a table as it is read.
func show(t []api.UsageDef) string {
	var l []string
	for _, u := range t {
		var args []string
		for _, a := range u.Args {
			args = append(args, showKinds(a))
		}
		l = append(l, showKinds(u.Chans)+"/"+showKinds(u.Rules)+"/"+strings.Join(args, ","))
	}
	return strings.Join(l, " ")
}

// copied returns a table that shares no memory with t.
func copied(t []api.UsageDef) []api.UsageDef {
	var out []api.UsageDef
	for _, u := range t {
		c := api.UsageDef{Chans: slices.Clone(u.Chans), Rules: slices.Clone(u.Rules)}
		for _, a := range u.Args {
			c.Args = append(c.Args, slices.Clone(a))
		}
		out = append(out, c)
	}
	return out
}

// entry is a kind of a table, and whether it can be UsageOnce.
type entry struct {
	*api.UsageKind
	chanKind bool
}

// entries are all kinds of a table.
func entries(t []api.UsageDef) []entry {
	var l []entry
	for _, u := range t {
		for i := range u.Chans {
			l = append(l, entry{&u.Chans[i], true})
		}
		for _, k := range append([][]api.UsageKind{u.Rules}, u.Args...) {
			for i := range k {
				l = append(l, entry{&k[i], false})
			}
		}
	}
	return l
}

// blank is the table of a program in which all counts are 0.
func blank(p api.ScopeProg) []api.UsageDef {
	var t []api.UsageDef
	for _, d := range p.Defs {
		u := api.UsageDef{Chans: kinds(strings.Repeat("0", len(d.Chans))), Rules: kinds(strings.Repeat("0", len(d.Rules)))}
		for _, c := range d.Chans {
			u.Args = append(u.Args, kinds(strings.Repeat("0", c.Many)))
		}
		t = append(t, u)
	}
	return t
}

// number is the count of a kind, with 2 for many.
func number(k api.UsageKind) int {
	return map[api.UsageKind]int{api.UsageNever: 0, api.UsageOnce: 1, api.UsageMost: 1, api.UsageMany: 2}[k]
}

// notBelow reports whether u has no count that is less than that of t, and UsageOnce only where t has it.
func notBelow(t, u []api.UsageDef) bool {
	l := entries(u)
	for i, k := range entries(t) {
		if number(*k.UsageKind) > number(*l[i].UsageKind) || *l[i].UsageKind == api.UsageOnce && *k.UsageKind != api.UsageOnce {
			return false
		}
	}
	return true
}

func name(n int) api.ScopeExp { return api.ScopeExp{Op: api.TermName, N: n} }

// misfits are tables that are not as defined for the example.
func misfits() [][]api.UsageDef {
	var l [][]api.UsageDef
	for _, s := range []string{
		"", "*!!/*1/*,1,*", "*!!/*1/*,1,* !/1/ //", "!/1/ *!!/*1/*,1,*",
		"*!/*1/*,1 !/1/", "*!!!/*1/*,1,*,* !/1/", "*!!/*/*,1,* !/1/", "*!!/*11/*,1,* !/1/", "*!!/*1/*,1, !/1/", "*!!/*1/*,11,* !/1/", "*!!/*1/*,1,* !/1/1", "*!!/*1/*,1,* !//", "*!!/*1/*,1,* /1/",
		"*!!/*!/*,1,* !/1/", "*!!/*1/*,!,* !/1/", "*!!/*1/*,1,* !/!/",
		"*!?/*1/*,1,* !/1/", "*!!/*?/*,1,* !/1/", "*!!/*1/?,1,* !/1/",
	} {
		l = append(l, table(s))
	}
	for _, change := range []func(u []api.UsageDef){
		func(u []api.UsageDef) { u[0].Chans = u[0].Chans[:2] },
		func(u []api.UsageDef) { u[0].Chans = append(u[0].Chans, api.UsageMany) },
		func(u []api.UsageDef) { u[0].Chans = nil },
		func(u []api.UsageDef) { u[0].Args = u[0].Args[:2] },
		func(u []api.UsageDef) { u[0].Args = append(u[0].Args, nil) },
		func(u []api.UsageDef) { u[0].Chans[0] = 5 },
		func(u []api.UsageDef) { u[1].Rules[0] = 5 },
		func(u []api.UsageDef) { u[0].Args[0][0] = -1 },
	} {
		u := table(found)
		change(u)
		l = append(l, u)
	}
	return l
}

// found is the table of the example.
const found = "*!!/*1/*,1,* !/1/"

func TestNotation(t *testing.T) {
	u := table(found)
	if show(u) != found || show(copied(u)) != found || len(entries(u)) != 10 || u[0].Chans[1] != api.UsageOnce || u[0].Rules[1] != api.UsageMost || len(u[1].Args) != 1 {
		t.Error(u)
	}
}
