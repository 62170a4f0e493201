package infer

import (
	"maps"

	"cabotage/api"
	"cabotage/term"
)

// scheme is the type that a name has somewhere, and the variables that are general there.
type scheme struct {
	*node
	general set
}

// instance returns a type with new variables in place of the general ones.
func (s scheme) instance() *node {
	if len(s.general) == 0 {
		return s.node
	}
	made := map[*node]*node{}
	var become func(n *node) *node
	become = func(n *node) *node {
		n = n.now()
		m, ok := made[n]
		switch {
		case ok:
			return m
		case s.general[n]:
			m = newVariable()
		case len(n.kids()) > 0:
			m = newChannel(each(n.kids(), become))
		default:
			m = n
		}
		made[n] = m
		return m
	}
	return become(s.node)
}

// names are those that a part binds.
type names map[string]scheme

func (l names) scheme(name string) (scheme, bool) {
	s, ok := l[name]
	return s, ok
}

// of returns the names with types, one each, in which nothing is general.
func of(l []string, types []*node) names {
	out := names{}
	for i, n := range l {
		out[n] = scheme{node: types[i]}
	}
	return out
}

// scope is that of the parts of a part that binds names.
type scope struct {
	names
	around *scope
}

func (s *scope) with(l names) *scope { return &scope{l, s} }

// name returns the type of a name where it stands. What no part around binds is bound by the scope around all.
func (s *scope) name(name string) *node {
	if x, ok := s.scheme(name); ok {
		return x.instance()
	}
	return s.around.name(name)
}

func (s *scope) exp(e api.TermExp) *node {
	if e.Op == api.TermName {
		return s.name(e.Text)
	}
	return newInteger()
}

// staying returns the variables that stay around what stands in a scope. General ones are not left out: they stand in no other type.
func (s *scope) staying() set {
	out := set{}
	for in := s; in != nil; in = in.around {
		for _, x := range in.names {
			maps.Copy(out, variables(x.node))
		}
	}
	return out
}

// definition is what a TermDef binds: its channels with their types, and its places.
type definition struct {
	channels, places []string
	types            []*node
	general          set // known behind the Defs
}

func newDefinition(t api.Term) *definition {
	channels, places, _ := term.Defines(t)
	return &definition{channels, places, newVariables(len(channels)), nil}
}

// names returns what is bound, with the variables that are general as far as they are known.
func (d *definition) names() names {
	out := names{}
	for i, c := range d.channels {
		out[c] = scheme{d.types[i], d.general}
	}
	for _, p := range d.places {
		out[p] = scheme{node: newPlace()}
	}
	return out
}

// generalize finds the variables that are general behind the Defs of a TermDef that stands in a scope.
func (d *definition) generalize(defs []api.TermClause, around *scope) {
	general := variables(d.types...)
	for v := range around.staying() {
		delete(general, v)
	}
	types := d.names()
	for _, r := range rules(defs) {
		met := set{}
		for _, j := range r.Joins {
			for v := range variables(types[j.Text].node) {
				if met[v] {
					delete(general, v)
				}
				met[v] = true
			}
		}
	}
	d.general = general
}

// rules returns the rules among some Defs, and among those of their places.
func rules(defs []api.TermClause) []api.TermClause {
	var l []api.TermClause
	for _, c := range defs {
		if c.Form == api.TermRule {
			l = append(l, c)
		}
		l = append(l, rules(c.Defs)...)
	}
	return l
}
