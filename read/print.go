package read

import (
	"strconv"
	"strings"

	"cabotage/api"
	"cabotage/term"
)

// level is how close the parts of something belong together: brackets are around what stands where a greater one is asked.
type level int

const (
	loose    level = iota // a process that goes on as far as it can; < and ==
	sums                  // + and -
	products              // *
	tight                 // an item, an atom
)

func levelOf(op api.TermOp) level {
	switch op {
	case api.TermNil, api.TermStop, api.TermSend:
		return tight
	}
	return loose
}

func levelOfSign(op api.TermSign) level {
	switch op {
	case api.TermLess, api.TermSame:
		return loose
	case api.TermAdd, api.TermSub:
		return sums
	case api.TermMul:
		return products
	}
	return tight
}

// printer holds the tokens that are printed.
type printer struct{ words []string }

func (p *printer) put(words ...string) { p.words = append(p.words, words...) }

// String returns the tokens with blanks between them.
func (p *printer) String() string {
	var b strings.Builder
	before := "("
	for _, w := range p.words {
		if apart(before, w) {
			b.WriteString(" ")
		}
		b.WriteString(w)
		before = w
	}
	return b.String()
}

// apart reports whether there is a blank between two tokens.
func apart(a, b string) bool {
	switch b {
	case ")", ",", ";":
		return false
	case "(":
		return a != "(" && !term.Name(a)
	}
	return a != "("
}

// within prints something of a level where another one is asked.
func (p *printer) within(asked, is level, print func()) {
	if is >= asked {
		print()
		return
	}
	p.put("(")
	print()
	p.put(")")
}

// listed prints the elements of a list, with a sign between two of them.
func listed[T any](p *printer, sign string, l []T, print func(T)) {
	for i, x := range l {
		if i > 0 {
			p.put(sign)
		}
		print(x)
	}
}

func (p *printer) process(t api.Term) {
	switch t.Op {
	case api.TermNil:
		p.put("0")
	case api.TermStop:
		p.put("stop")
	case api.TermSend:
		p.put(t.Text, "(")
		listed(p, ",", t.Args, p.exp)
		p.put(")")
	case api.TermPar:
		first := t.Kids[0]
		p.within(tight, levelOf(first.Op), func() { p.process(first) })
		p.put("|")
		p.process(t.Kids[1])
	case api.TermDef:
		p.put("def")
		listed(p, "and", t.Defs, p.clause)
		p.put("in")
		p.process(t.Kids[0])
	case api.TermIf:
		p.put("if")
		p.exp(t.Args[0])
		p.put("then")
		p.process(t.Kids[0])
		p.put("else")
		p.process(t.Kids[1])
	case api.TermGo:
		p.put("go", t.Text, ";")
		p.process(t.Kids[0])
	case api.TermWatch:
		p.put("watch", t.Text, ";")
		p.process(t.Kids[0])
	}
}

func (p *printer) clause(c api.TermClause) {
	if c.Form == api.TermRule {
		listed(p, "&", c.Joins, func(j api.TermMsg) {
			p.put(j.Text, "(")
			listed(p, ",", j.Names, func(n string) { p.put(n) })
			p.put(")")
		})
		p.put("=")
		p.process(c.Kids[0])
		return
	}
	p.put("place", c.Text, "{")
	listed(p, "and", c.Defs, p.clause)
	p.put("in")
	p.process(c.Kids[0])
	p.put("}")
}

func (p *printer) exp(e api.TermExp) {
	switch e.Op {
	case api.TermInt:
		p.put(strings.Replace(strconv.Itoa(e.N), "-", "~", 1))
	case api.TermName:
		p.put(e.Text)
	case api.TermAdd:
		p.both(e, sums, "+", products)
	case api.TermSub:
		p.both(e, sums, "-", products)
	case api.TermMul:
		p.both(e, products, "*", tight)
	case api.TermLess:
		p.both(e, sums, "<", sums)
	case api.TermSame:
		p.both(e, sums, "==", sums)
	}
}

// both prints what stands on both sides of a sign, of which levels are asked.
func (p *printer) both(e api.TermExp, left level, sign string, right level) {
	a, b := e.Kids[0], e.Kids[1]
	p.within(left, levelOfSign(a.Op), func() { p.exp(a) })
	p.put(sign)
	p.within(right, levelOfSign(b.Op), func() { p.exp(b) })
}
