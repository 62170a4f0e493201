package term

import (
	"iter"
	"maps"

	"cabotage/api"
)

// part is a process, an expression or a definition. What it binds, it binds in all of its parts.
type part interface {
	parts() []part   // in order
	binds() []string // in order
	stands() string  // the name that stands in it, but not in its parts; empty if there is none
}

type process api.Term

type expression api.TermExp

type definition api.TermClause

func (t process) parts() []part {
	var l []part
	for _, e := range t.Args {
		l = append(l, expression(e))
	}
	for _, d := range t.Defs {
		l = append(l, definition(d))
	}
	for _, k := range t.Kids {
		l = append(l, process(k))
	}
	return l
}

func (e expression) parts() []part {
	var l []part
	for _, k := range e.Kids {
		l = append(l, expression(k))
	}
	return l
}

func (d definition) parts() []part {
	var l []part
	for _, c := range d.Defs {
		l = append(l, definition(c))
	}
	for _, k := range d.Kids {
		l = append(l, process(k))
	}
	return l
}

func (t process) binds() []string {
	if t.Op != api.TermDef {
		return nil
	}
	return append(channelsOf(t.Defs), placesOf(t.Defs)...)
}

func (e expression) binds() []string { return nil }

func (d definition) binds() []string {
	var l []string
	for _, j := range d.Joins {
		l = append(l, j.Names...)
	}
	return l
}

func (t process) stands() string { return t.Text }

func (e expression) stands() string { return e.Text }

// The Text of a place is one of the names that a TermDef binds.
func (d definition) stands() string { return "" }

// nodes goes through a part, and all below it, each before its parts; with each comes its level, 1 for the part itself. What is below a node is not looked at before the loop has seen the node itself, so that a loop can leave a list that holds itself in time.
func nodes(p part) iter.Seq2[part, int] {
	return func(yield func(part, int) bool) {
		var walk func(p part, level int) bool
		walk = func(p part, level int) bool {
			if !yield(p, level) {
				return false
			}
			for _, q := range p.parts() {
				if !walk(q, level+1) {
					return false
				}
			}
			return true
		}
		walk(p, 1)
	}
}

// measure returns how many nodes a part has, and its depth.
func measure(p part) (count, depth int) {
	for _, level := range nodes(p) {
		count++
		depth = max(depth, level)
	}
	return count, depth
}

// free returns the names that are free in a part.
func free(p part) map[string]bool {
	set := map[string]bool{}
	for _, q := range p.parts() {
		maps.Copy(set, free(q))
	}
	for _, n := range p.binds() {
		delete(set, n)
	}
	if n := p.stands(); n != "" {
		set[n] = true
	}
	return set
}

// written returns all names of a part: those that stand in it, and those that it binds.
func written(p part) map[string]bool {
	set := map[string]bool{}
	for q := range nodes(p) {
		for _, n := range q.binds() {
			set[n] = true
		}
		if n := q.stands(); n != "" {
			set[n] = true
		}
	}
	return set
}
