package sol_test

import (
	"math/rand"
	"testing"

	"cabotage/api"
	"cabotage/sol"
)

// P6.6: what has died is told after it died, and no event comes from a dead place behind its SolDied.
func TestDeaths(t *testing.T) {
	told, behindIt := 0, 0
	programs(t, 1500, func(seed int64, r *rand.Rand, p api.ScopeProg) {
		s, l, e := sol.First(p)
		died := map[int]bool{}
		for turn := 0; e == api.OK && turn < 15; turn++ {
			for i, x := range l {
				switch {
				case died[x.At], x.Deed == api.SolTold && !died[x.N], x.Deed == api.SolWent && died[x.N], x.Deed == api.SolDied && len(l) > 1:
					t.Fatal(seed, p, show(s), i, showEvents(l))
				case x.Deed == api.SolDied:
					within, _ := sol.Within(s, x.At)
					for _, b := range within {
						died[b] = true
					}
				}
				told += number(x.Deed == api.SolTold)
				behindIt += number(len(died) > 0)
			}
			for b, x := range s.Spots {
				if x.Dead != died[b] {
					t.Fatal(seed, p, show(s), died)
				}
			}
			s, l, e = sol.Run(p, s, []int{r.Intn(60)})
		}
	})
	if told < 300 || behindIt < 1500 {
		t.Error("too few:", told, behindIt)
	}
}
