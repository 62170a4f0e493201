package flat

import (
	"iter"
	"slices"

	"cabotage/api"
)

// byRule is the Wait of the steps of rules.
const byRule = -1

// steps goes through the steps in order, but of those that differ in Picks alone only the first one comes, without Picks, and how many they are: there can be too many to go through them one by one.
func (s solution) steps() iter.Seq2[api.SolStep, int] {
	return func(yield func(api.SolStep, int) bool) {
		for i, x := range s.Waits {
			if s.goesOn(x) && !yield(api.SolStep{Wait: i}, 1) {
				return
			}
		}
		for g := range s.Groups {
			for r := range s.def(g).Rules {
				x := api.SolStep{Wait: byRule, Group: g, Rule: r}
				if many := s.choices(x); many > 0 && !yield(x, many) {
					return
				}
			}
		}
	}
}

// goesOn reports whether a process that waits can go on. (The place 0 can go nowhere, as each place is within it.)
func (s solution) goesOn(x api.SolWait) bool {
	n := s.Nodes[x.Node]
	if n.Op == api.TermStop {
		return true
	}
	to := x.Env[n.N]
	if to.Kind != api.SolPlace {
		return false
	}
	dead := s.Spots[to.N].Dead
	if n.Op == api.TermWatch {
		return dead
	}
	return !dead && !s.within(x.At, to.N)
}

// rule returns the rule of a step.
func (s solution) rule(x api.SolStep) api.ScopeRule { return s.def(x.Group).Rules[x.Rule] }

// queues returns the channels of which a step takes messages, in order.
func (s solution) queues(x api.SolStep) []int {
	if x.Wait != byRule {
		return nil
	}
	var l []int
	for _, j := range s.rule(x).Joins {
		l = append(l, s.channel(x.Group, j))
	}
	return l
}

// choices returns in how many ways a rule can react. In a dead place it cannot, as its channels are there and have no messages.
func (s solution) choices(x api.SolStep) int {
	many := 1
	for _, c := range s.queues(x) {
		many *= len(s.Chans[c].Queue)
	}
	return many
}

// count returns how many steps there are.
func (s solution) count() int {
	sum := 0
	for _, many := range s.steps() {
		sum += many
	}
	return sum
}

// nth returns the step with a number, which there must be.
func (s solution) nth(n int) api.SolStep {
	for x, many := range s.steps() {
		if n < many {
			x.Picks = s.picks(x, n)
			return x
		}
		n -= many
	}
	return api.SolStep{}
}

// picks returns a number as Picks: digits, of which the last one counts fastest.
func (s solution) picks(x api.SolStep, n int) []int {
	queues := s.queues(x)
	l := make([]int, len(queues))
	for i, c := range slices.Backward(queues) {
		long := len(s.Chans[c].Queue)
		l[i] = n % long
		n /= long
	}
	return l
}

// has reports whether x is one of the steps.
func (s solution) has(x api.SolStep) bool {
	for y := range s.steps() {
		if x.Wait == y.Wait && x.Group == y.Group && x.Rule == y.Rule {
			return slices.EqualFunc(s.queues(y), x.Picks, func(c, pick int) bool { return numbered(pick, len(s.Chans[c].Queue)) })
		}
	}
	return false
}
