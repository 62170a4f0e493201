package term

import "cabotage/api"

// copied is the scope in which a process is copied as it is.
func copied() scope { return scope{outside{}, nil} }

// term returns a new process: the one that t becomes in a scope.
func (s scope) term(t api.Term) api.Term {
	in := s.inside(process(t))
	t.Text = s.text(t.Text)
	t.Args = each(t.Args, in.exp)
	t.Defs = each(t.Defs, in.clause)
	t.Kids = each(t.Kids, in.term)
	return t
}

func (s scope) clause(c api.TermClause) api.TermClause {
	in := s.inside(definition(c))
	c.Text = s.text(c.Text)
	c.Joins = each(c.Joins, func(j api.TermMsg) api.TermMsg {
		// The channel is bound around the rule, what it brings by the rule.
		return api.TermMsg{Text: s.text(j.Text), Names: each(j.Names, in.text)}
	})
	c.Defs = each(c.Defs, in.clause)
	c.Kids = each(c.Kids, in.term)
	return c
}

func (s scope) exp(e api.TermExp) api.TermExp {
	if e.Op == api.TermName {
		return s.becomes(e.Text)
	}
	e.Kids = each(e.Kids, s.exp)
	return e
}

// text returns what a name becomes where no other expression can stand.
func (s scope) text(name string) string {
	if name == "" {
		return ""
	}
	e := s.becomes(name)
	if e.Op != api.TermName {
		refuse(api.ErrRule)
	}
	return e.Text
}

// each returns a new list of what the elements of a list become, from the front.
func each[T any](l []T, become func(T) T) []T {
	var out []T
	for _, x := range l {
		out = append(out, become(x))
	}
	return out
}
