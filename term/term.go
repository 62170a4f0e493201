// Package term is layer 1: see shared/doc/01-term.md.
package term

import (
	"maps"
	"slices"

	"cabotage/api"
)

// Name reports whether a string is a name.
func Name(s string) bool { return spelt(s) && !keywords()[s] }

// Fresh returns the first name that is none of some strings.
func Fresh(l []string) string { return unused(among(l)) }

// Check returns ErrArg for a process that is not formed, CheckExp for an expression.
func Check(t api.Term) api.Errno { return formed(process(t)) }

func CheckExp(e api.TermExp) api.Errno { return formed(expression(e)) }

// Nodes returns how many nodes a process has, Depth its depth.
func Nodes(t api.Term) (int, api.Errno) {
	return attempt(func() int {
		mustBeFormed(process(t))
		count, _ := measure(process(t))
		return count
	})
}

func Depth(t api.Term) (int, api.Errno) {
	return attempt(func() int {
		mustBeFormed(process(t))
		_, depth := measure(process(t))
		return depth
	})
}

// Free returns the free names of a process, sorted, Defines the channels and the places of a TermDef.
func Free(t api.Term) ([]string, api.Errno) {
	return attempt(func() []string {
		mustBeFormed(process(t))
		return slices.Sorted(maps.Keys(free(process(t))))
	})
}

func Defines(t api.Term) (channels, places []string, e api.Errno) {
	if e = Check(t); e != api.OK {
		return nil, nil, e
	}
	if t.Op != api.TermDef {
		return nil, nil, api.ErrNone
	}
	return channelsOf(t.Defs), placesOf(t.Defs), api.OK
}

// Put returns a process with an expression in place of a name.
func Put(t api.Term, x string, e api.TermExp) (api.Term, api.Errno) {
	return attempt(func() api.Term {
		mustBeFormed(process(t))
		mustBeName(x)
		mustBeFormed(expression(e))
		used := written(process(t))
		maps.Copy(used, written(expression(e)))
		used[x] = true
		put := scope{putting{outside{used}, x, e}, nil}.term(t)
		mustFit(put)
		return put
	})
}

// Canon returns a process with its bound names chosen anew, Alike whether two are the same up to bound names.
func Canon(t api.Term) (api.Term, api.Errno) {
	return attempt(func() api.Term {
		mustBeFormed(process(t))
		return scope{anew{outside{free(process(t))}}, nil}.term(t)
	})
}

func Alike(a, b api.Term) (bool, api.Errno) {
	x, e := Canon(a)
	if e != api.OK {
		return false, e
	}
	y, e := Canon(b)
	if e != api.OK {
		return false, e
	}
	return equalTerms(x, y), api.OK
}

// Parts returns the parts beside each other of a process, Beside some processes beside each other, Layout a process laid out.
func Parts(t api.Term) ([]api.Term, api.Errno) {
	return attempt(func() []api.Term {
		mustBeFormed(process(t))
		return split(copied().term(t))
	})
}

func Beside(l []api.Term) (api.Term, api.Errno) {
	return attempt(func() api.Term {
		for _, t := range l {
			mustBeFormed(process(t))
		}
		if len(l) > api.TermNodes {
			refuse(api.ErrLong)
		}
		beside := join(each(l, copied().term))
		mustFit(beside)
		return beside
	})
}

func Layout(t api.Term) (api.Term, api.Errno) {
	return attempt(func() api.Term {
		mustBeFormed(process(t))
		laid := layTerm(copied().term(t))
		mustFit(laid)
		return laid
	})
}
