package flat

import "cabotage/api"

// refusal is what gives up: the error that is returned.
type refusal api.Errno

// must gives up with an error if something does not hold.
func must(holds bool, e api.Errno) {
	if !holds {
		panic(refusal(e))
	}
}

// atMost gives up if there are more things than can be.
func atMost(limit, many int) { must(many <= limit, api.ErrLong) }

// attempt returns what work does, or the error with which it gave up.
func attempt[T any](work func() T) (result T, e api.Errno) {
	defer func() {
		switch r := recover().(type) {
		case nil:
		case refusal:
			e = api.Errno(r)
		default:
			e = api.ErrArg
		}
	}()
	return work(), api.OK
}
