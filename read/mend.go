package read

import (
	"maps"
	"slices"

	"cabotage/api"
)

// change is a way to change one token: how many are left out at a place, and whether one is put in there.
type change struct {
	without int
	with    bool
}

// derived reports whether tokens can be derived from process.
func derived(l []api.ReadToken) bool {
	r := &reader{text: text{list: l}}
	_, _, ok := attempt(func() api.Term { return whole(r, r.process) })
	return ok
}

// putIn returns the tokens that are put in, each alone.
func putIn() [][]api.ReadToken {
	l := [][]api.ReadToken{{made(zero)}, {made(name)}}
	for _, w := range slices.Sorted(maps.Keys(keywords())) {
		l = append(l, []api.ReadToken{made(w)})
	}
	for _, s := range signs {
		l = append(l, []api.ReadToken{made(s)})
	}
	return l
}

// mended returns the first tokens with one of them changed that can be derived, or none; l has the end behind them.
func mended(l []api.ReadToken) []api.ReadToken {
	if derived(l) {
		return l
	}
	var found []api.ReadToken
	words := putIn()
search:
	for _, c := range []change{{1, false}, {0, true}, {1, true}} {
		with := words
		if !c.with {
			with = [][]api.ReadToken{nil}
		}
		for at := range len(l) - c.without {
			for _, w := range with {
				changed := slices.Concat(l[:at], w, l[at+c.without:])
				if derived(changed) {
					found = changed
					break search
				}
			}
		}
	}
	return found
}
