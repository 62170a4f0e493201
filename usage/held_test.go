package usage_test

import (
	"math/rand"
	"slices"
	"testing"

	"cabotage/api"
	"cabotage/sol"
)

// tally counts what happens in a run of layer 6. Its solution is the one behind the steps so far.
type tally struct {
	api.Sol
	came, begun map[int]int    // how many messages came to each channel; those in the step in which it was made
	reacted     map[[2]int]int // how often each rule of each group reacted
}

// tallies goes through a run by chance, behind each step.
func tallies(t *testing.T, p api.ScopeProg, r *rand.Rand, steps int) func(yield func(*tally) bool) {
	return func(yield func(*tally) bool) {
		y := &tally{came: map[int]int{}, begun: map[int]int{}, reacted: map[[2]int]int{}}
		s, events, e := sol.First(p)
		for e == api.OK {
			y.count(p, s, events)
			many, _ := sol.Count(p, s)
			if !yield(y) || steps == 0 || many == 0 {
				return
			}
			steps--
			s, events, e = sol.Run(p, s, []int{r.Intn(many)})
		}
		if e != api.ErrLong { // it is too much to go on
			t.Error(p, e)
		}
	}
}

// count counts what has happened in a step: a channel has what it had, without what was taken, and what came. Where a place stops, all that is in it goes, and nothing comes.
func (y *tally) count(p api.ScopeProg, s api.Sol, events []api.SolEvent) {
	for i, c := range s.Chans {
		switch {
		case i >= len(y.Chans):
			y.came[i], y.begun[i] = len(c.Queue), len(c.Queue)
		case len(events) == 0 || events[0].Deed != api.SolDied:
			y.came[i] += len(c.Queue) - len(y.Chans[i].Queue)
		}
	}
	y.Sol = s
	for _, x := range events {
		if x.Deed != api.SolTook {
			continue
		}
		y.reacted[[2]int{x.N, x.M}]++
		for i, c := range s.Chans {
			if c.Group == x.N && slices.Contains(p.Defs[s.Groups[x.N].Def].Rules[x.M].Joins, c.Index) {
				y.came[i]++
			}
		}
	}
}

// allowed reports whether a table allows what has happened.
func (y *tally) allowed(u []api.UsageDef) bool {
	for i, c := range y.Chans {
		k := u[y.Groups[c.Group].Def].Chans[c.Index]
		if !within(y.came[i], k) || k == api.UsageOnce && (y.begun[i] != 1 || y.came[i] != 1) {
			return false
		}
	}
	for x, n := range y.reacted {
		if !within(n, u[y.Groups[x[0]].Def].Rules[x[1]]) {
			return false
		}
	}
	return true
}

// P5.5 and P5.6: in the runs of layer 6, by the table of a program, and by any that is accepted.
func TestHeld(t *testing.T) {
	seen, broken := map[api.UsageKind][3]int{}, 0 // how often a channel with a kind had no message, one, and more; how many tables that are not accepted do not hold
	programs(t, 1500, func(seed int64, r *rand.Rand, p api.ScopeProg) {
		least := tableOf(t, p)
		tables := [][]api.UsageDef{least, judgeOf(p).raised(r, anyTable(r, p))}
		others := [][]api.UsageDef{anyTable(r, p), blank(p)}
		var last *tally
		for y := range tallies(t, p, r, 20) {
			for _, u := range tables {
				if accepts(t, p, u) && !y.allowed(u) {
					t.Fatal(seed, p, show(u), y)
				}
			}
			last = y
		}
		for _, u := range others {
			if last != nil && !last.allowed(u) {
				broken++
				if accepts(t, p, u) {
					t.Fatal(seed, p, show(u), last)
				}
			}
		}
		if last == nil {
			return
		}
		for i, c := range last.Chans {
			k := least[last.Groups[c.Group].Def].Chans[c.Index]
			many := seen[k]
			many[min(last.came[i], 2)]++
			seen[k] = many
		}
	})
	if broken < 500 || seen[api.UsageOnce][1] < 500 || seen[api.UsageMost][1] < 5 || seen[api.UsageMost][0] < 5 || seen[api.UsageMany][2] < 300 || seen[api.UsageNever][0] < 300 {
		t.Error("too few of a kind:", seen, broken)
	}
}

// P5.5 and P5.6: sources whose runs do all that the table allows: it holds in all of them, and with any less of Chans and Rules, or with UsageOnce for UsageMost, it does not.
func TestHeldJust(t *testing.T) {
	less := map[api.UsageKind]api.UsageKind{api.UsageOnce: api.UsageNever, api.UsageMost: api.UsageNever, api.UsageMany: api.UsageMost}
	for source, want := range map[string]string{
		"def r() = 0 in def k(a) = a() | a() in def y(b) = b(r) in y(k)":                            "*/*/ 1/1/* !/1/1",
		"def x(a) = a() in def w() = x(out) in w()":                                                 "1/1/1 !/1/",
		"def x() = 0 and place p { in stop } in watch p; x()":                                       "1/1/",
		"def x() = 0 in stop | x()":                                                                 "!/1/",
		"def x() & y() = 0 in x() | y() | y()":                                                      "!*/1/,",
		"def m() = (def x(a) = 0 in x(m)) in m() | m()":                                             "*/*/ !/1/0",
		"def x() = y() and place p { y() = 0 in 0 } in x()":                                         "!1/11/,",
		"def x() = 0 and place p { in watch q; x() } and place q { in stop } in x()":                "*/*/",
		"def y() = 0 in def x(k) = k() and place p { in stop } in watch p; x(y)":                    "1/1/ 1/1/1",
		"def x() = stop in def place p { y() = x() in y() } in 0":                                   "1/1/ !/1/",
		"def x() = 0 and y() = x() and place p { in go q; x() } and place q { in stop } in y() | 0": "*!/*1/,",
	} {
		p := program(source)
		u := tableOf(t, p)
		if show(u) != want {
			t.Error(source, show(u))
		}
		if !allowedAlways(t, p, u) {
			t.Error(source, show(u), "does not hold")
		}
		holds := func(k *api.UsageKind, other api.UsageKind) {
			defer func(was api.UsageKind) { *k = was }(*k)
			*k = other
			if allowedAlways(t, p, u) {
				t.Error(source, show(u), "holds")
			}
		}
		for def := range u {
			for i, k := range u[def].Chans {
				holds(&u[def].Chans[i], less[k])
				if k == api.UsageMost {
					holds(&u[def].Chans[i], api.UsageOnce)
				}
			}
			for i, k := range u[def].Rules {
				holds(&u[def].Rules[i], less[k])
			}
		}
	}
}

// allowedAlways reports whether a table allows all that happens in some runs.
func allowedAlways(t *testing.T, p api.ScopeProg, u []api.UsageDef) bool {
	for seed := range int64(40) {
		for y := range tallies(t, p, rand.New(rand.NewSource(seed)), 12) {
			if !y.allowed(u) {
				return false
			}
		}
	}
	return true
}
