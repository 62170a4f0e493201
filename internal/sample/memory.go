package sample

import "cabotage/api"

// Lists returns all lists of values of a solution and of events, which share their memory.
func Lists(s api.Sol, events []api.SolEvent) [][]api.SolVal {
	var l [][]api.SolVal
	for _, g := range s.Groups {
		l = append(l, g.Env)
	}
	for _, c := range s.Chans {
		for _, m := range c.Queue {
			l = append(l, m.Vals)
		}
	}
	for _, x := range s.Waits {
		l = append(l, x.Env)
	}
	for _, x := range events {
		l = append(l, x.Vals)
	}
	return l
}

// Spoil overwrites a list, and what lies behind it.
func Spoil[T any](l []T, with T) {
	l = l[:cap(l)]
	for i := range l {
		l[i] = with
	}
}

// SpoilSol overwrites all that a solution, and events, refer to: numbers with 77, and messages with the integer 78.
func SpoilSol(s api.Sol, events []api.SolEvent) {
	for _, l := range Lists(s, events) {
		Spoil(l, api.SolVal{Kind: api.SolInt, N: 77})
	}
	for _, c := range s.Chans {
		Spoil(c.Queue, api.SolMsg{Vals: []api.SolVal{{Kind: api.SolInt, N: 78}}})
	}
	Spoil(s.Spots, api.SolSpot{In: 77})
	Spoil(s.Groups, api.SolGroup{Def: 77})
	Spoil(s.Chans, api.SolQ{Group: 77})
	Spoil(s.Waits, api.SolWait{At: 77})
	Spoil(events, api.SolEvent{At: 77})
}
