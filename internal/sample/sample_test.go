package sample_test

import (
	"fmt"
	"math/rand"
	"testing"

	"cabotage/api"
	"cabotage/internal/sample"
	"cabotage/scope"
	"cabotage/sol"
)

// All that is made is formed, and is the same if the same is chosen.
func TestSample(t *testing.T) {
	all := func(seed int64) (api.ScopeProg, api.Sol) {
		r := rand.New(rand.NewSource(seed))
		p := sample.Made(r.Intn, func() string {
			if seed%3 == 0 {
				return sample.Mortal(r.Intn)
			}
			return sample.Source(r.Intn, []sample.Mix{sample.Lively, sample.Plain}[seed%2])
		})
		return p, sample.Solution(r.Intn, p)
	}
	inOrder := 0
	for seed := range int64(300) {
		p, s := all(seed)
		if scope.Check(p) != api.OK || sol.Check(p, s) != api.OK {
			t.Error(seed, p, s)
		}
		if is, _ := scope.InOrder(p); is {
			inOrder++
		}
		if q, u := all(seed); fmt.Sprint(q, u) != fmt.Sprint(p, s) {
			t.Error(seed, "is made in another way")
		}
	}
	if inOrder < 100 || inOrder > 200 {
		t.Error("too few, or too many, are in order:", inOrder)
	}
}

// What is unformed is so.
func TestUnformed(t *testing.T) {
	for i, p := range sample.Unformed("def x(a) & y() = out(a) in y()") {
		if scope.Check(p) != api.ErrArg {
			t.Error(i, p)
		}
	}
	if _, e := sample.Program("def x"); e == api.OK {
		t.Error(e)
	}
}
