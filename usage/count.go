package usage

import (
	"cmp"

	"cabotage/api"
)

// count is how often something happens.
type count int

const (
	none count = iota
	one
	many
)

func (a count) plus(b count) count { return min(a+b, many) }

func (a count) times(b count) count { return min(a*b, many) }

// kind returns the kind of a count.
func (a count) kind() api.UsageKind {
	switch a {
	case none:
		return api.UsageNever
	case one:
		return api.UsageMost
	}
	return api.UsageMany
}

// countOf returns the count of a kind.
func countOf(k api.UsageKind) count {
	switch k {
	case api.UsageNever:
		return none
	case api.UsageOnce, api.UsageMost:
		return one
	}
	return many
}

func greater[T cmp.Ordered](a, b T) T {
	if a < b {
		return b
	}
	return a
}
