package infer

import "cabotage/api"

// refusal is what gives up: the error that is returned. That of types that cannot be equal is ErrRule.
type refusal api.Errno

// must gives up with an error if something does not hold.
func must(holds bool, e api.Errno) {
	if !holds {
		panic(refusal(e))
	}
}

// attempt returns what work does, or the error with which it gave up.
func attempt[T any](work func() T) (result T, e api.Errno) {
	defer func() {
		switch r := recover().(type) {
		case nil:
		case refusal:
			e = api.Errno(r)
		default:
			e = api.ErrArg
		}
	}()
	return work(), api.OK
}

// succeeds reports whether work does not give up.
func succeeds(work func()) bool {
	_, e := attempt(func() bool {
		work()
		return true
	})
	return e == api.OK
}

// mustBeNumbers gives up for a list that is not strictly increasing, or has anything but numbers of so many things.
func mustBeNumbers(l []int, many int) {
	for i, n := range l {
		must(n >= 0 && n < many && (i == 0 || l[i-1] < n), api.ErrArg)
	}
}

func mustBeTypes(l ...api.InferType) {
	for _, t := range l {
		mustBeType(t)
	}
}

// mustBeType gives up for what is no type. It counts nodes on the way, so that it comes to an end with a list that holds itself.
func mustBeType(t api.InferType) {
	count := 0
	var look func(t api.InferType)
	look = func(t api.InferType) {
		count++
		must(count <= api.InferMost && shaped(t), api.ErrArg)
		for _, k := range t.Kids {
			look(k)
		}
	}
	look(t)
}

// shaped reports whether a type has what its kind has; its Kids are not looked at.
func shaped(t api.InferType) bool {
	switch t.Op {
	case api.InferInt, api.InferPlace:
		return t.N == 0 && len(t.Kids) == 0
	case api.InferChan:
		return t.N == 0 && len(t.Kids) <= api.TermArgs
	case api.InferVar:
		return t.N >= 0 && t.N <= api.InferVars && len(t.Kids) == 0
	}
	return false
}
