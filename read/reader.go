package read

import (
	"slices"
	"strconv"
	"strings"

	"cabotage/api"
)

// reader reads the nodes of a text, with their spots.
type reader struct {
	text
	spots []api.ReadSpot
}

// start is where a node begins: its first byte, and its number among the nodes.
type start struct{ from, number int }

func (r *reader) begin() start {
	return start{r.list[r.at].At, len(r.spots)}
}

// node says that a node ends here. What was read since it began are its parts, which come behind it.
func (r *reader) node(s start) {
	r.spots = slices.Insert(r.spots, s.number, api.ReadSpot{From: s.from, To: r.to})
}

// list reads some of a kind, with a sign between two of them.
func list[T any](r *reader, sign string, one func() T) []T {
	l := []T{one()}
	for r.sees(sign) {
		r.take(sign)
		l = append(l, one())
	}
	return l
}

// enclosed reads a list between brackets; there may be nothing in it.
func enclosed[T any](r *reader, one func() T) []T {
	var l []T
	r.take("(")
	if !r.sees(")", end) {
		l = list(r, ",", one)
	}
	r.take(")")
	return l
}

// whole reads what has nothing behind it.
func whole[T any](r *reader, one func() T) T {
	x := one()
	r.finish()
	return x
}

func (r *reader) word() string { return r.take(name).Text }

func (r *reader) process() api.Term {
	s := r.begin()
	t := r.item()
	if r.sees("|") {
		r.take("|")
		t = api.Term{Op: api.TermPar, Kids: []api.Term{t, r.process()}}
		r.node(s)
	}
	return t
}

// item reads a process up to the first | that does not belong to its parts.
func (r *reader) item() api.Term {
	s := r.begin()
	var t api.Term
	first := r.take(zero, "stop", name, "(", "def", "if", "go", "watch")
	switch class(first) {
	case zero:
		t = api.Term{Op: api.TermNil}
	case "stop":
		t = api.Term{Op: api.TermStop}
	case name:
		t = api.Term{Op: api.TermSend, Text: first.Text, Args: enclosed(r, r.exp)}
	case "(":
		t = r.process()
		r.take(")")
		return t
	case "def":
		t = r.define()
	case "if":
		t = r.choose()
	case "go":
		t = r.toward(api.TermGo)
	case "watch":
		t = r.toward(api.TermWatch)
	}
	r.node(s)
	return t
}

func (r *reader) define() api.Term {
	l := list(r, "and", r.clause)
	r.take("in")
	return api.Term{Op: api.TermDef, Defs: l, Kids: []api.Term{r.process()}}
}

func (r *reader) choose() api.Term {
	e := r.exp()
	r.take("then")
	yes := r.process()
	r.take("else")
	no := r.process()
	return api.Term{Op: api.TermIf, Args: []api.TermExp{e}, Kids: []api.Term{yes, no}}
}

func (r *reader) toward(op api.TermOp) api.Term {
	place := r.word()
	r.take(";")
	return api.Term{Op: op, Text: place, Kids: []api.Term{r.process()}}
}

func (r *reader) clause() api.TermClause {
	s := r.begin()
	read := r.rule
	if r.sees("place") {
		read = r.place
	}
	c := read()
	r.node(s)
	return c
}

func (r *reader) rule() api.TermClause {
	l := list(r, "&", func() api.TermMsg {
		channel := r.word()
		return api.TermMsg{Text: channel, Names: enclosed(r, r.word)}
	})
	r.take("=")
	return api.TermClause{Form: api.TermRule, Joins: l, Kids: []api.Term{r.process()}}
}

func (r *reader) place() api.TermClause {
	r.take("place")
	c := api.TermClause{Form: api.TermPlace, Text: r.word()}
	r.take("{")
	if !r.sees("in", end) {
		c.Defs = list(r, "and", r.clause)
	}
	r.take("in")
	c.Kids = []api.Term{r.process()}
	r.take("}")
	return c
}

func (r *reader) exp() api.TermExp {
	s := r.begin()
	e := r.sum()
	if r.sees("<", "==") {
		e = r.both(s, e, r.sum)
	}
	return e
}

func (r *reader) sum() api.TermExp {
	s := r.begin()
	e := r.product()
	for r.sees("+", "-") {
		e = r.both(s, e, r.product)
	}
	return e
}

func (r *reader) product() api.TermExp {
	s := r.begin()
	e := r.atom()
	for r.sees("*") {
		e = r.both(s, e, r.atom)
	}
	return e
}

// both reads a sign and what stands to the right of it.
func (r *reader) both(s start, left api.TermExp, read func() api.TermExp) api.TermExp {
	sign := r.take("+", "-", "*", "<", "==").Text
	right := read()
	r.node(s)
	return api.TermExp{Op: operation(sign), Kids: []api.TermExp{left, right}}
}

func (r *reader) atom() api.TermExp {
	s := r.begin()
	var e api.TermExp
	first := r.take(zero, number, name, "(")
	switch class(first) {
	case "(":
		e = r.exp()
		r.take(")")
		return e
	case name:
		e = api.TermExp{Op: api.TermName, Text: first.Text}
	default:
		e = api.TermExp{Op: api.TermInt, N: value(first.Text)}
	}
	r.node(s)
	return e
}

// value returns the integer of a token. One that is too large for an int becomes the largest one, and is not formed either.
func value(s string) int {
	n, _ := strconv.Atoi(strings.Replace(s, "~", "-", 1))
	return n
}

func operation(sign string) api.TermSign {
	switch sign {
	case "+":
		return api.TermAdd
	case "-":
		return api.TermSub
	case "*":
		return api.TermMul
	case "<":
		return api.TermLess
	}
	return api.TermSame
}
