package scope_test

import (
	"math/rand"
	"slices"
	"testing"

	"cabotage/api"
	"cabotage/scope"
)

// P3.2: the chapter's example.
func TestSizesOfExample(t *testing.T) {
	p := program()
	sizes, e := scope.Sizes(p)
	if e != api.OK || !slices.Equal(sizes, []int{3, 7, 6, 6, 6, 6, 6, 6}) {
		t.Error(sizes, e)
	}
	needs, e := scope.Needs(p)
	if e != api.OK || !same(needs, [][]int{{0, 1, 2}, {0, 2, 6}, {1, 3}, {3}, {4, 5}, {4}, {5}, {}}) {
		t.Error(needs, e)
	}
	below, e := scope.Below(p)
	if e != api.OK || !same(below, [][]int{{0, 1, 2, 3, 4, 5, 6, 7}, {1}, {2, 3}, {3}, {4, 5, 6, 7}, {5}, {6, 7}, {7}}) {
		t.Error(below, e)
	}
}

// P3.2: what is added where, what is needed of what is around, and that N is a place of some nodes only.
func TestSizesOfSources(t *testing.T) {
	for _, x := range []struct {
		source       string
		sizes        []int
		needs, below [][]int
	}{
		{"0", []int{0}, [][]int{{}}, [][]int{{0}}},
		{"stop", []int{0}, [][]int{{}}, [][]int{{0}}},
		{"b(c + 1 - a, c)", []int{3}, [][]int{{0, 1, 2}}, [][]int{{0}}},
		{"go b; watch a; 0", []int{2, 2, 2}, [][]int{{0, 1}, {0}, {}}, [][]int{{0, 1, 2}, {1, 2}, {2}}},
		{"if a < 0 then b(0) else c(0)", []int{3, 3, 3}, [][]int{{0, 1, 2}, {1}, {2}}, [][]int{{0, 1, 2}, {1}, {2}}},
		// The body has what x, y and z bring behind x, y, z and p; the definition has the number 0, which is no place.
		{"def x(a, b, c) & y(d) & z() = out(c, d) and place p { in 0 } in 0", []int{1, 9, 5, 5}, [][]int{{0}, {0, 7, 8}, {}, {}}, [][]int{{0, 1, 2, 3}, {1}, {2}, {3}}},
		// Two rules with one channel: each has its own value, at the same place.
		{"def x(a) = out(a) and x(a) & y() = a() in x(x)", []int{1, 4, 4, 3}, [][]int{{0}, {0, 3}, {3}, {1}}, [][]int{{0, 1, 2, 3}, {1}, {2}, {3}}},
		// What one TermDef defines is at the place where another one has something else.
		{"(def x() = 0 in x()) | def y(a) = go y; 0 in 0", []int{0, 0, 1, 1, 0, 2, 2, 1}, [][]int{{}, {}, {}, {0}, {}, {0}, {}, {}}, [][]int{{0, 1, 2, 3, 4, 5, 6, 7}, {1, 2, 3}, {2}, {3}, {4, 5, 6, 7}, {5, 6}, {6}, {7}}},
		// A TermDef within a rule within a TermDef.
		{"def x(a) = (def y(b) = z(x, a, b) in y(a)) in x(0)", []int{1, 3, 5, 4, 2}, [][]int{{0}, {0, 1, 2}, {0, 1, 2, 4}, {2, 3}, {1}}, [][]int{{0, 1, 2, 3, 4}, {1, 2, 3}, {2}, {3}, {4}}},
	} {
		p, e := scope.Bind(process(x.source))
		if e != api.OK {
			t.Error(x.source, e)
		}
		sizes, e := scope.Sizes(p)
		needs, f := scope.Needs(p)
		below, g := scope.Below(p)
		if e != api.OK || f != api.OK || g != api.OK || !slices.Equal(sizes, x.sizes) || !same(needs, x.needs) || !same(below, x.below) {
			t.Error(x.source, sizes, needs, below, e, f, g)
		}
	}
}

// P3.2: nodes and definitions with any numbers.
func TestSizesOfAny(t *testing.T) {
	each(t, func(r *rand.Rand, p api.ScopeProg) {
		for _, q := range []api.ScopeProg{p, shuffled(r, p), shuffled(r, p)} {
			want := factsOf(q)
			sizes, e := scope.Sizes(q)
			needs, f := scope.Needs(q)
			below, g := scope.Below(q)
			if e != api.OK || f != api.OK || g != api.OK || !slices.Equal(sizes, want.sizes) || !same(needs, want.needs) || !same(below, want.below) {
				t.Fatal(q, sizes, needs, below, e, f, g, want)
			}
		}
	})
}

// P3.2: the largest environment, and the longest way down.
func TestSizesOfLargest(t *testing.T) {
	d := api.ScopeDef{Chans: slices.Repeat([]api.ScopeChan{{Many: 3}}, 30), Spots: make([]api.ScopeSpot, 30)}
	for i := range 10 {
		d.Rules = append(d.Rules, api.ScopeRule{Joins: []int{3 * i, 3*i + 1, 3*i + 2}})
	}
	p := defined(d)
	last := &p.Nodes[p.Defs[0].Rules[9].Node]
	*last = node(api.TermSend, 0)
	last.Args = []api.ScopeExp{name(1 + 30 + 30 + 9 - 1)}
	sizes, e := scope.Sizes(p)
	if at := p.Defs[0].Rules[9].Node; e != api.OK || sizes[at] != 70 || sizes[1] != 61 || sizes[0] != 1 {
		t.Error(sizes, e)
	}
	below, e := scope.Below(chain(60))
	if e != api.OK || len(below) != 60 || len(below[0]) != 60 || below[59][0] != 59 {
		t.Error(below, e)
	}
}
