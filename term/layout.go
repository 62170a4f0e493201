package term

import "cabotage/api"

// split returns the parts beside each other of a process.
func split(t api.Term) []api.Term {
	switch t.Op {
	case api.TermNil:
		return nil
	case api.TermPar:
		return append(split(t.Kids[0]), split(t.Kids[1])...)
	}
	return []api.Term{t}
}

// join returns some processes beside each other.
func join(l []api.Term) api.Term {
	if len(l) == 0 {
		return api.Term{Op: api.TermNil}
	}
	t := l[len(l)-1]
	for i := len(l) - 2; i >= 0; i-- {
		t = api.Term{Op: api.TermPar, Kids: []api.Term{l[i], t}}
	}
	return t
}

// layTerm returns a process laid out. It shares memory with t: lists that cannot change are not copied.
func layTerm(t api.Term) api.Term {
	t.Defs = each(t.Defs, layClause)
	t.Kids = each(t.Kids, layTerm)
	return join(split(t))
}

func layClause(c api.TermClause) api.TermClause {
	c.Defs = each(c.Defs, layClause)
	c.Kids = each(c.Kids, layTerm)
	return c
}
