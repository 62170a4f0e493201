package read

import (
	"slices"

	"cabotage/api"
)

// What is expected is a class of tokens; a keyword and a sign are one of their own. A class is called like the token of it that is put in where one is missing.
const (
	zero    = "0"
	number  = "1" // any other integer
	name    = "a"
	end     = ""
	strange = "$" // a byte at which there is no token
)

func class(t api.ReadToken) string {
	switch {
	case t.Kind == api.ReadName:
		return name
	case t.Kind == api.ReadInt && t.Text != zero:
		return number
	case t.Kind == 0 && t.Text != "":
		return strange
	}
	return t.Text
}

// text is what is read: tokens, with what they end with behind them.
type text struct {
	list  []api.ReadToken
	at    int  // how many of them were taken
	to    int  // the first byte behind the last one that was taken
	mends bool // whether what is missing at the end is put in
	rest  []string
}

// textOf cuts a source.
func textOf(source string) text {
	var x text
	for t := range tokens(source) {
		x.list = append(x.list, t)
	}
	return x
}

// last returns what the tokens end with.
func (x *text) last() api.ReadToken { return x.list[len(x.list)-1] }

// sees reports whether the next token is of one of some classes.
func (x *text) sees(classes ...string) bool {
	return slices.Contains(classes, class(x.list[x.at]))
}

// take returns the next token, which must be of one of some classes; where it is missing one of the first class is put in.
func (x *text) take(classes ...string) api.ReadToken {
	t := x.list[x.at]
	switch {
	case x.sees(classes...):
		x.at++
		x.to = t.At + len(t.Text)
		return t
	case x.sees(end) && x.mends:
		x.rest = append(x.rest, classes[0])
		return made(classes[0])
	}
	panic(fault(t))
}

// finish gives up if there is one more token.
func (x *text) finish() {
	if !x.sees(end) {
		panic(fault(x.list[x.at]))
	}
}

// fault is what gives up: the first token that nothing can go on with.
type fault api.ReadToken

// attempt returns what is read, or the fault.
func attempt[T any](read func() T) (result T, f fault, ok bool) {
	defer func() {
		if g, is := recover().(fault); is {
			f = g
		}
	}()
	return read(), fault{}, true
}
