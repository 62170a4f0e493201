package infer

import (
	"iter"
	"slices"

	"cabotage/api"
	"cabotage/term"
)

// subject is a process that is formed, and its free names, sorted.
type subject struct {
	api.Term
	free []string
}

func mustBeFormed(t api.Term) subject {
	free, e := term.Free(t)
	must(e == api.OK, e)
	return subject{t, free}
}

// parts goes through all parts of a process whose free names have some types, each before its parts.
func (t subject) parts(free []*node) iter.Seq[part] {
	outside := &scope{of(t.free, free), nil}
	return func(yield func(part) bool) {
		var walk func(p part) bool
		walk = func(p part) bool {
			if !yield(p) {
				return false
			}
			for q := range p.parts() {
				if !walk(q) {
					return false
				}
			}
			return true
		}
		walk(outside.process(t.Term))
	}
}

// anyTypes returns types for the free names that can become any.
func (t subject) anyTypes() []*node { return newVariables(len(t.free)) }

// typing is the types of the free names of a process, and what its TermDefs bind.
type typing struct {
	free []*node
	defs []*definition
}

// every says of each demand that it has to be met.
func every(int) bool { return true }

// typed returns the most general types with some types for the free names, and the demands that have to be met, or gives up.
func (t subject) typed(free []*node, asked func(number int) bool) typing {
	out := typing{free: free}
	number := 0
	for p := range t.parts(free) {
		if d, ok := p.(defining); ok {
			out.defs = append(out.defs, d.bound)
		}
		for _, d := range p.demands() {
			if asked(number) {
				equate(d.a, d.b)
			}
			number++
		}
	}
	return out
}

// meets reports whether some demands can be met together.
func (t subject) meets(some []int) bool {
	return succeeds(func() {
		t.typed(t.anyTypes(), func(number int) bool { return slices.Contains(some, number) })
	})
}

func (t subject) demands() []api.InferDemand {
	var l []api.InferDemand
	number := 0
	for p := range t.parts(t.anyTypes()) {
		for _, d := range p.demands() {
			l = append(l, api.InferDemand{Wish: d.wish, Part: number, N: d.n})
		}
		number++
	}
	return l
}

// explanation returns what is left of the demands when each is left out without which the others still cannot be met, or gives up if all can.
func (t subject) explanation() []int {
	var left []int
	for i := range t.demands() {
		left = append(left, i)
	}
	must(!t.meets(left), api.ErrNone)
	for _, i := range slices.Clone(left) {
		others := slices.DeleteFunc(slices.Clone(left), func(k int) bool { return k == i })
		if !t.meets(others) {
			left = others
		}
	}
	return left
}
