package usage_test

import (
	"math/rand"
	"strings"
	"testing"

	"cabotage/api"
	"cabotage/internal/sample"
	"cabotage/scope"
)

// programs calls f with programs by chance.
func programs(t *testing.T, many int, f func(seed int64, r *rand.Rand, p api.ScopeProg)) {
	t.Helper()
	for seed := int64(0); seed < int64(many) && !t.Failed(); seed++ {
		r := rand.New(rand.NewSource(seed))
		f(seed, r, sample.Made(r.Intn, func() string { return sample.Source(r.Intn, sample.Plain) }))
	}
}

// anyTable returns a table that is as defined for a program.
func anyTable(r *rand.Rand, p api.ScopeProg) []api.UsageDef {
	t := blank(p)
	high := r.Intn(4)
	for _, k := range entries(t) {
		*k.UsageKind = []api.UsageKind{api.UsageNever, api.UsageMost, api.UsageMany, api.UsageMany, api.UsageMany}[r.Intn(3+min(high, 2))]
		if k.chanKind && r.Intn(4) == 0 {
			*k.UsageKind = api.UsageOnce
		}
	}
	return t
}

// What is made is formed, and its tables have all kinds.
func TestMade(t *testing.T) {
	shown, places := "", 0
	programs(t, 300, func(seed int64, r *rand.Rand, p api.ScopeProg) {
		if e := scope.Check(p); e != api.OK {
			t.Error(seed, p, e)
		}
		for _, d := range p.Defs {
			places += len(d.Spots)
		}
		shown += show(judgeOf(p).table(r))
	})
	for _, s := range signs {
		if n := strings.Count(shown, string(s)); n < 150 || places < 100 {
			t.Error("too few", string(s), n, places)
		}
	}
}
