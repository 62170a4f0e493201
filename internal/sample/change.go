package sample

import (
	"slices"

	"cabotage/api"
)

// Copied returns a solution that shares no memory with s.
func Copied(s api.Sol) api.Sol {
	s = api.Sol{Spots: slices.Clone(s.Spots), Groups: slices.Clone(s.Groups), Chans: slices.Clone(s.Chans), Waits: slices.Clone(s.Waits)}
	for i := range s.Groups {
		s.Groups[i].Env = slices.Clone(s.Groups[i].Env)
	}
	for i := range s.Chans {
		s.Chans[i].Queue = slices.Clone(s.Chans[i].Queue)
		for k := range s.Chans[i].Queue {
			s.Chans[i].Queue[k].Vals = slices.Clone(s.Chans[i].Queue[k].Vals)
		}
	}
	for i := range s.Waits {
		s.Waits[i].Env = slices.Clone(s.Waits[i].Env)
	}
	return s
}

// One calls change with something of a list, if there is anything.
func One[T any](choose Choose, l []T, change func(x *T)) {
	if len(l) > 0 {
		change(&l[choose(len(l))])
	}
}

// Altered returns a list that is shorter, longer or in another order. It can overwrite l.
func Altered[T any](choose Choose, l []T) []T {
	if len(l) == 0 {
		return make([]T, 1)
	}
	k := choose(len(l))
	switch choose(4) {
	case 0:
		return slices.Delete(l, k, k+1)
	case 1:
		return slices.Insert(l, k, l[k])
	case 2:
		return slices.Repeat(l, 1+choose(15))
	}
	other := choose(len(l))
	l[k], l[other] = l[other], l[k]
	return l
}

// Near changes a number a little.
func Near(choose Choose, n *int) { *n += choose(5) - 2 }

// other changes a value.
func other(choose Choose, v *api.SolVal) {
	switch choose(3) {
	case 0:
		Near(choose, &v.N)
	case 1:
		v.Kind = api.SolKind(choose(6))
	default:
		*v = api.SolVal{Kind: api.SolInt, N: (api.TermMost + choose(2)) * (2*choose(2) - 1)}
	}
}

// Disturb changes something of a solution of a program with so many nodes.
func Disturb(choose Choose, nodes int, s *api.Sol) {
	value := func(v *api.SolVal) { other(choose, v) }
	switch choose(4) {
	case 0:
		disturbSpots(choose, s)
	case 1:
		disturbGroups(choose, s, value)
	case 2:
		disturbChans(choose, s, value)
	case 3:
		disturbWaits(choose, nodes, s, value)
	}
}

func disturbSpots(choose Choose, s *api.Sol) {
	switch choose(3) {
	case 0:
		One(choose, s.Spots, func(x *api.SolSpot) { x.In = choose(len(s.Spots)+2) - 1 })
	case 1:
		One(choose, s.Spots, func(x *api.SolSpot) { x.Dead = !x.Dead })
	case 2:
		s.Spots = Altered(choose, s.Spots)
	}
}

func disturbGroups(choose Choose, s *api.Sol, value func(v *api.SolVal)) {
	switch choose(5) {
	case 0:
		One(choose, s.Groups, func(x *api.SolGroup) { Near(choose, &x.Def) })
	case 1:
		One(choose, s.Groups, func(x *api.SolGroup) { x.At = choose(len(s.Spots)+2) - 1 })
	case 2:
		One(choose, s.Groups, func(x *api.SolGroup) { One(choose, x.Env, value) })
	case 3:
		One(choose, s.Groups, func(x *api.SolGroup) { x.Env = Altered(choose, x.Env) })
	case 4:
		s.Groups = Altered(choose, s.Groups)
	}
}

func disturbChans(choose Choose, s *api.Sol, value func(v *api.SolVal)) {
	switch choose(4) {
	case 0:
		One(choose, s.Chans, func(x *api.SolQ) { Near(choose, []*int{&x.Group, &x.Index, &x.At}[choose(3)]) })
	case 1:
		One(choose, s.Chans, func(x *api.SolQ) { x.Queue = Altered(choose, x.Queue) })
	case 2:
		One(choose, s.Chans, func(x *api.SolQ) {
			One(choose, x.Queue, func(m *api.SolMsg) { One(choose, m.Vals, value) })
		})
	case 3:
		s.Chans = Altered(choose, s.Chans)
	}
}

func disturbWaits(choose Choose, nodes int, s *api.Sol, value func(v *api.SolVal)) {
	switch choose(4) {
	case 0:
		One(choose, s.Waits, func(x *api.SolWait) { x.At = choose(len(s.Spots)+2) - 1 })
	case 1:
		One(choose, s.Waits, func(x *api.SolWait) { x.Node = choose(nodes+2) - 1 })
	case 2:
		One(choose, s.Waits, func(x *api.SolWait) {
			if choose(2) == 0 {
				x.Env = Altered(choose, x.Env)
			}
			One(choose, x.Env, value)
		})
	case 3:
		s.Waits = Altered(choose, s.Waits)
	}
}
