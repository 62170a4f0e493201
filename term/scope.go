package term

import "cabotage/api"

// around is what a scope asks the scope around it.
type around interface {
	binds(name string) bool           // whether a part around binds it
	becomes(name string) api.TermExp  // what stands in its place
	renames(p part, s scope) []string // which of the names that p binds are chosen anew, if p stands in s
	choose() string                   // a name that was not chosen before
}

// scope is that of the parts of a part that binds names: each with the one that it becomes.
type scope struct {
	around
	names map[string]string
}

func (s scope) binds(name string) bool {
	_, ok := s.names[name]
	return ok || s.around.binds(name)
}

func (s scope) becomes(name string) api.TermExp {
	if n, ok := s.names[name]; ok {
		return named(n)
	}
	return s.around.becomes(name)
}

// inside returns the scope of the parts of a part that stands in s.
func (s scope) inside(p part) scope {
	bound := p.binds()
	if len(bound) == 0 {
		return s
	}
	names := map[string]string{}
	for _, n := range bound {
		names[n] = n
	}
	for _, n := range s.renames(p, s) {
		names[n] = s.choose()
	}
	return scope{s, names}
}

func named(n string) api.TermExp { return api.TermExp{Op: api.TermName, Text: n} }

// outside is the scope around all: nothing is bound, and all names are left as they are.
type outside struct {
	used map[string]bool // what is not chosen
}

func (o outside) binds(name string) bool { return false }

func (o outside) becomes(name string) api.TermExp { return named(name) }

func (o outside) renames(p part, s scope) []string { return nil }

func (o outside) choose() string {
	n := unused(o.used)
	o.used[n] = true
	return n
}

// anew is the scope around a process all of whose bound names are chosen anew.
type anew struct{ outside }

func (a anew) renames(p part, s scope) []string { return p.binds() }

// putting is the scope around a process in which an expression is put in place of a name.
type putting struct {
	outside
	name string
	exp  api.TermExp
}

func (u putting) becomes(name string) api.TermExp {
	if name != u.name {
		return named(name)
	}
	return copied().exp(u.exp)
}

// renames returns the names of the expression that p would bind.
func (u putting) renames(p part, s scope) []string {
	if s.binds(u.name) || !free(p)[u.name] {
		return nil
	}
	var l []string
	caught := free(expression(u.exp))
	for _, n := range p.binds() {
		if caught[n] {
			l = append(l, n)
		}
	}
	return l
}
