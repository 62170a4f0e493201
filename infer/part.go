package infer

import (
	"iter"

	"cabotage/api"
)

// part is a part of a process, in the scope in which it stands.
type part interface {
	demands() []demand
	parts() iter.Seq[part] // in order
}

// demand is that two types are equal.
type demand struct {
	wish api.InferWish
	n    int
	a, b *node
}

type process struct {
	api.Term
	*scope
}

// defining is a TermDef.
type defining struct {
	process
	bound *definition
}

type expression struct {
	api.TermExp
	*scope
}

// spot is a place among Defs.
type spot struct {
	api.TermClause
	*scope
}

type rule struct {
	api.TermClause
	*scope
	body *scope
}

func (s *scope) process(t api.Term) part {
	p := process{t, s}
	if t.Op == api.TermDef {
		return defining{p, newDefinition(t)}
	}
	return p
}

func (s *scope) expression(e api.TermExp) part { return expression{e, s} }

func (s *scope) clause(c api.TermClause) part {
	if c.Form == api.TermPlace {
		return spot{c, s}
	}
	var values []string
	for _, j := range c.Joins {
		values = append(values, j.Names...)
	}
	return rule{c, s, s.with(of(values, newVariables(len(values))))}
}

func (p process) demands() []demand {
	switch p.Op {
	case api.TermSend:
		return []demand{{api.InferSend, 0, p.name(p.Text), newChannel(each(p.Args, p.exp))}}
	case api.TermIf:
		return []demand{{api.InferTest, 0, p.exp(p.Args[0]), newInteger()}}
	case api.TermGo:
		return []demand{{api.InferGo, 0, p.name(p.Text), newPlace()}}
	case api.TermWatch:
		return []demand{{api.InferWatch, 0, p.name(p.Text), newPlace()}}
	}
	return nil
}

func (e expression) demands() []demand {
	kids := each(e.Kids, e.exp)
	switch e.Op {
	case api.TermAdd, api.TermSub, api.TermMul, api.TermLess:
		return []demand{{api.InferOperand, 0, kids[0], newInteger()}, {api.InferOperand, 1, kids[1], newInteger()}}
	case api.TermSame:
		return []demand{{api.InferAlike, 0, kids[0], kids[1]}}
	}
	return nil
}

func (s spot) demands() []demand { return nil }

// The channel of a Join is that of the scope around the rule, even if a value has its name.
func (r rule) demands() []demand {
	var l []demand
	for i, j := range r.Joins {
		l = append(l, demand{api.InferJoin, i, r.name(j.Text), newChannel(each(j.Names, r.body.name))})
	}
	return l
}

func (p process) parts() iter.Seq[part] {
	return func(yield func(part) bool) {
		if yieldAll(p.Args, p.expression, yield) {
			yieldAll(p.Kids, p.process, yield)
		}
	}
}

// What is general in the Kid is seen when the loop has met all demands ahead of it.
func (d defining) parts() iter.Seq[part] {
	return func(yield func(part) bool) {
		if yieldAll(d.Defs, d.with(d.bound.names()).clause, yield) {
			d.bound.generalize(d.Defs, d.scope)
			yieldAll(d.Kids, d.with(d.bound.names()).process, yield)
		}
	}
}

func (e expression) parts() iter.Seq[part] {
	return func(yield func(part) bool) { yieldAll(e.Kids, e.expression, yield) }
}

func (s spot) parts() iter.Seq[part] {
	return func(yield func(part) bool) {
		if yieldAll(s.Defs, s.clause, yield) {
			yieldAll(s.Kids, s.process, yield)
		}
	}
}

func (r rule) parts() iter.Seq[part] {
	return func(yield func(part) bool) { yieldAll(r.Kids, r.body.process, yield) }
}

// yieldAll yields the parts that the elements of a list become, and reports whether more are wanted.
func yieldAll[T any](l []T, become func(T) part, yield func(part) bool) bool {
	for _, x := range l {
		if !yield(become(x)) {
			return false
		}
	}
	return true
}

// each returns what the elements of a list become.
func each[T, U any](l []T, become func(T) U) []U {
	var out []U
	for _, x := range l {
		out = append(out, become(x))
	}
	return out
}
