package sol

import "cabotage/api"

// formedExp reports whether an expression is formed, with names that are places of an environment of some size. It looks at no more nodes than an expression can have, so that it also leaves a list that holds itself.
func formedExp(e api.ScopeExp, size int) bool {
	left := api.ScopeNodes
	var formed func(e api.ScopeExp, level int) bool
	formed = func(e api.ScopeExp, level int) bool {
		left--
		if left < 0 || level > api.TermDepth || !formedPart(e, size) {
			return false
		}
		for _, k := range e.Kids {
			if !formed(k, level+1) {
				return false
			}
		}
		return true
	}
	return formed(e, 1)
}

// formedPart reports whether an expression has what its kind has; its Kids are not looked at.
func formedPart(e api.ScopeExp, size int) bool {
	switch e.Op {
	case api.TermInt:
		return isInteger(e.N) && len(e.Kids) == 0
	case api.TermName:
		return numbered(e.N, size) && len(e.Kids) == 0
	case api.TermAdd, api.TermSub, api.TermMul, api.TermLess, api.TermSame:
		return e.N == 0 && len(e.Kids) == 2
	}
	return false
}

// isInteger reports whether n is an integer of the language.
func isInteger(n int) bool { return n >= -api.TermMost && n <= api.TermMost }

// notValue reports whether v is a value of no solution.
func notValue(v api.SolVal) bool {
	return v.Kind < api.SolInt || v.Kind > api.SolPlace || v.Kind == api.SolInt && !isInteger(v.N)
}

// value returns the value of an expression that is formed.
func value(e api.ScopeExp, env []api.SolVal) api.SolVal {
	switch e.Op {
	case api.TermInt:
		return api.SolVal{Kind: api.SolInt, N: e.N}
	case api.TermName:
		return env[e.N]
	}
	a, b := integer(value(e.Kids[0], env)), integer(value(e.Kids[1], env))
	return api.SolVal{Kind: api.SolInt, N: reckon(e.Op, a, b)}
}

// integer returns what a value counts as where it is reckoned with.
func integer(v api.SolVal) int {
	if v.Kind != api.SolInt {
		return 0
	}
	return v.N
}

func reckon(op api.TermSign, a, b int) int {
	switch op {
	case api.TermAdd:
		return nearest(a + b)
	case api.TermSub:
		return nearest(a - b)
	case api.TermMul:
		return nearest(a * b)
	case api.TermLess:
		return truth(a < b)
	}
	return truth(a == b)
}

// nearest returns the integer of the language that is nearest to n.
func nearest(n int) int { return max(-api.TermMost, min(n, api.TermMost)) }

func truth(is bool) int {
	if is {
		return 1
	}
	return 0
}
