package term_test

import (
	"fmt"
	"math/rand"
	"regexp"
	"slices"
	"strconv"
	"strings"
	"testing"

	"cabotage/api"
)

// source reads processes from the grammar of layer 2, without looking at what is formed: tests are short that way.
type source struct{ tokens []string }

var tokens = regexp.MustCompile(`~?[0-9]+|[a-z]+|==|[(){},;|&=<+*-]`)

func read(s string) api.Term {
	r := &source{tokens.FindAllString(s, -1)}
	t := r.process()
	if len(r.tokens) > 0 {
		panic("no process: " + s)
	}
	return t
}

func readExp(s string) api.TermExp {
	r := &source{tokens.FindAllString(s, -1)}
	e := r.exp()
	if len(r.tokens) > 0 {
		panic("no expression: " + s)
	}
	return e
}

func (r *source) at(s string) bool { return len(r.tokens) > 0 && r.tokens[0] == s }

func (r *source) next() string {
	s := r.tokens[0]
	r.tokens = r.tokens[1:]
	return s
}

func (r *source) skip(s string) {
	if got := r.next(); got != s {
		panic("not " + s + ", but " + got)
	}
}

func (r *source) process() api.Term {
	switch {
	case r.at("def"):
		return r.def()
	case r.at("if"):
		r.next()
		e := r.exp()
		r.skip("then")
		yes := r.process()
		r.skip("else")
		return api.Term{Op: api.TermIf, Args: []api.TermExp{e}, Kids: []api.Term{yes, r.process()}}
	case r.at("go"), r.at("watch"):
		op := map[string]api.TermOp{"go": api.TermGo, "watch": api.TermWatch}[r.next()]
		to := r.next()
		r.skip(";")
		return api.Term{Op: op, Text: to, Kids: []api.Term{r.process()}}
	}
	t := r.item()
	if r.at("|") {
		r.next()
		return api.Term{Op: api.TermPar, Kids: []api.Term{t, r.process()}}
	}
	return t
}

func (r *source) item() api.Term {
	switch s := r.next(); s {
	case "0":
		return api.Term{Op: api.TermNil}
	case "stop":
		return api.Term{Op: api.TermStop}
	case "(":
		t := r.process()
		r.skip(")")
		return t
	default:
		t := api.Term{Op: api.TermSend, Text: s}
		r.list(func() { t.Args = append(t.Args, r.exp()) })
		return t
	}
}

// list reads what stands between brackets, with commas.
func (r *source) list(one func()) {
	r.skip("(")
	for !r.at(")") {
		one()
		if r.at(",") {
			r.next()
		}
	}
	r.next()
}

func (r *source) def() api.Term {
	r.next()
	t := api.Term{Op: api.TermDef, Defs: r.clauses()}
	r.skip("in")
	t.Kids = []api.Term{r.process()}
	return t
}

func (r *source) clauses() []api.TermClause {
	l := []api.TermClause{r.clause()}
	for r.at("and") {
		r.next()
		l = append(l, r.clause())
	}
	return l
}

func (r *source) clause() api.TermClause {
	if r.at("place") {
		r.next()
		c := api.TermClause{Form: api.TermPlace, Text: r.next()}
		r.skip("{")
		if !r.at("in") {
			c.Defs = r.clauses()
		}
		r.skip("in")
		c.Kids = []api.Term{r.process()}
		r.skip("}")
		return c
	}
	c := api.TermClause{Form: api.TermRule, Joins: []api.TermMsg{r.join()}}
	for r.at("&") {
		r.next()
		c.Joins = append(c.Joins, r.join())
	}
	r.skip("=")
	c.Kids = []api.Term{r.process()}
	return c
}

func (r *source) join() api.TermMsg {
	j := api.TermMsg{Text: r.next()}
	r.list(func() { j.Names = append(j.Names, r.next()) })
	return j
}

func (r *source) exp() api.TermExp {
	return r.binary(r.sum, map[string]api.TermSign{"<": api.TermLess, "==": api.TermSame})
}

func (r *source) sum() api.TermExp {
	return r.binary(r.product, map[string]api.TermSign{"+": api.TermAdd, "-": api.TermSub})
}

func (r *source) product() api.TermExp {
	return r.binary(r.atom, map[string]api.TermSign{"*": api.TermMul})
}

func (r *source) binary(part func() api.TermExp, signs map[string]api.TermSign) api.TermExp {
	e := part()
	for len(r.tokens) > 0 && signs[r.tokens[0]] != 0 {
		op := signs[r.next()]
		e = api.TermExp{Op: op, Kids: []api.TermExp{e, part()}}
	}
	return e
}

func (r *source) atom() api.TermExp {
	s := r.next()
	if s == "(" {
		e := r.exp()
		r.skip(")")
		return e
	}
	if n, err := strconv.Atoi(strings.Replace(s, "~", "-", 1)); err == nil {
		return api.TermExp{Op: api.TermInt, N: n}
	}
	return name(s)
}

func name(s string) api.TermExp { return api.TermExp{Op: api.TermName, Text: s} }

func num(n int) api.TermExp { return api.TermExp{Op: api.TermInt, N: n} }

// text writes all that there is in a value, nil and empty lists alike: it is compared by this text.
func text(x any) string {
	return strings.ReplaceAll(fmt.Sprintf("%#v", x), "(nil)", "{}")
}

func same(a, b any) bool { return text(a) == text(b) }

// example is the process T of the chapter.
const example = "def x(a) & y() = z(a, b) and place p { in go q; x(1) } in y() | watch p; 0"

// unformed are processes that are not formed, each in another way.
func unformed() []api.Term {
	return []api.Term{{}, {Op: 9}, {Op: api.TermSend, Text: "go"}, read("x(1, 2, 3, 4)"), read("x(1 + and)"), read("def x() = 0 and x(a) = 0 in 0")}
}

// made makes processes of few names, so that some are bound again and again.
type made struct {
	*rand.Rand
	left int
}

// random returns a process that is formed: one that was made with less, if it has become too large.
func random(seed int64) api.Term {
	for left := 25; ; left -= 3 {
		m := &made{rand.New(rand.NewSource(seed)), left}
		t := m.process(4)
		if n, deep := size(t); n <= api.TermNodes && deep <= api.TermDepth {
			return t
		}
	}
}

// size returns nodes and depth of a process.
func size(t api.Term) (n, deep int) {
	var l [][2]int
	for _, e := range t.Args {
		l = append(l, sizeExp(e))
	}
	for _, d := range t.Defs {
		l = append(l, sizeClause(d))
	}
	for _, k := range t.Kids {
		n, deep := size(k)
		l = append(l, [2]int{n, deep})
	}
	all := around(l)
	return all[0], all[1]
}

// around returns nodes and depth of what has parts with these.
func around(l [][2]int) [2]int {
	out := [2]int{1, 1}
	for _, x := range l {
		out[0] += x[0]
		out[1] = max(out[1], 1+x[1])
	}
	return out
}

func sizeExp(e api.TermExp) [2]int {
	var l [][2]int
	for _, k := range e.Kids {
		l = append(l, sizeExp(k))
	}
	return around(l)
}

func sizeClause(c api.TermClause) [2]int {
	var l [][2]int
	for _, d := range c.Defs {
		l = append(l, sizeClause(d))
	}
	for _, k := range c.Kids {
		n, deep := size(k)
		l = append(l, [2]int{n, deep})
	}
	return around(l)
}

func (m *made) name() string { return string(rune('a' + m.Intn(5))) }

func (m *made) exp(deep int) api.TermExp {
	m.left--
	if k := m.Intn(8); deep > 1 && m.left > 0 && k > 5 {
		return api.TermExp{Op: api.TermAdd + api.TermSign(m.Intn(5)), Kids: []api.TermExp{m.exp(deep - 1), m.exp(deep - 1)}}
	} else if k == 0 {
		return num(m.Intn(3))
	}
	return name(m.name())
}

func (m *made) process(deep int) api.Term {
	m.left--
	k := m.Intn(9)
	switch {
	case deep <= 1 || m.left < 1 || k < 2:
		t := api.Term{Op: api.TermSend, Text: m.name()}
		for range m.Intn(4) {
			t.Args = append(t.Args, m.exp(3))
		}
		return t
	case k < 3:
		return api.Term{Op: api.TermNil}
	case k < 4:
		return api.Term{Op: api.TermGo + api.TermOp(2*m.Intn(2)), Text: m.name(), Kids: []api.Term{m.process(deep - 1)}}
	case k < 5:
		return api.Term{Op: api.TermIf, Args: []api.TermExp{m.exp(3)}, Kids: []api.Term{m.process(deep - 1), m.process(deep - 1)}}
	case k < 6:
		return api.Term{Op: api.TermPar, Kids: []api.Term{m.process(deep - 1), m.process(deep - 1)}}
	}
	return m.def(deep)
}

// def makes a TermDef in which each name is in one group only, with as many values everywhere.
func (m *made) def(deep int) api.Term {
	var of [3][]string
	for _, i := range m.Perm(5) {
		g := m.Intn(3)
		of[g] = append(of[g], string(rune('a'+i)))
	}
	t := api.Term{Op: api.TermDef, Defs: m.clauses(deep, of[0])}
	if len(of[1]) > 0 {
		p := m.place(deep, of[1])
		if len(of[2]) > 0 && m.Intn(2) == 0 {
			p.Defs = append(p.Defs, m.place(deep, of[2]))
		} else if len(of[2]) > 0 {
			t.Defs = append(t.Defs, m.place(deep, of[2]))
		}
		t.Defs = slices.Insert(t.Defs, m.Intn(len(t.Defs)+1), p)
	}
	if len(t.Defs) == 0 {
		return api.Term{Op: api.TermStop}
	}
	t.Kids = []api.Term{m.process(deep - 1)}
	return t
}

// place makes a place with the first one of some names, and rules with the others.
func (m *made) place(deep int, l []string) api.TermClause {
	return api.TermClause{Form: api.TermPlace, Text: l[0], Defs: m.clauses(deep, l[1:]), Kids: []api.Term{m.process(deep - 1)}}
}

// clauses makes rules with some channels, all with one value.
func (m *made) clauses(deep int, l []string) []api.TermClause {
	var out []api.TermClause
	if len(l) == 0 {
		return nil
	}
	for range 1 + m.Intn(2) {
		c := api.TermClause{Form: api.TermRule, Kids: []api.Term{m.process(deep - 1)}}
		names := m.Perm(5)
		for i, k := range m.Perm(len(l))[:1+m.Intn(min(len(l), 3))] {
			c.Joins = append(c.Joins, api.TermMsg{Text: l[k], Names: []string{string(rune('a' + names[i]))}})
		}
		out = append(out, c)
	}
	return out
}

// coded writes a process so that bound names are where they are bound: two are the same up to bound names if they have the same code. What is written of free names say exps, where they stand as an expression, and texts, where they stand as the Text of a process.
type coded struct {
	strings.Builder
	binders     int
	exps, texts func(name string) string
}

type bound map[string]string

func code(t api.Term, exps, texts func(string) string) string {
	c := &coded{exps: exps, texts: texts}
	c.process(t, bound{})
	return c.String()
}

func itself(n string) string { return n }

func plain(t api.Term) string { return code(t, itself, itself) }

func plainExp(e api.TermExp) string {
	c := &coded{exps: itself}
	c.exp(e, bound{})
	return c.String()
}

// freeNames returns the names that are free as expressions, and as Texts.
func freeNames(t api.Term) (exps, texts []string) {
	code(t, func(n string) string {
		exps = append(exps, n)
		return n
	}, func(n string) string {
		texts = append(texts, n)
		return n
	})
	return exps, texts
}

// more returns what is bound within a part that binds some names.
func (c *coded) more(b bound, l []string) bound {
	out := bound{}
	for k, v := range b {
		out[k] = v
	}
	for i, n := range l {
		out[n] = fmt.Sprintf("%d.%d", c.binders, i)
	}
	c.binders++
	return out
}

func means(n string, b bound, free func(string) string) string {
	if s, ok := b[n]; ok {
		return s
	}
	return free(n)
}

func (c *coded) exp(e api.TermExp, b bound) {
	if e.Op == api.TermName {
		c.WriteString(means(e.Text, b, c.exps))
		return
	}
	fmt.Fprintf(c, "[%d %d", e.Op, e.N)
	for _, k := range e.Kids {
		c.WriteString(" ")
		c.exp(k, b)
	}
	c.WriteString("]")
}

func (c *coded) process(t api.Term, b bound) {
	fmt.Fprintf(c, "(%d ", t.Op)
	if t.Text != "" {
		c.WriteString(means(t.Text, b, c.texts))
	}
	for _, e := range t.Args {
		c.exp(e, b)
		c.WriteString(",")
	}
	if t.Op == api.TermDef {
		b = c.more(b, defined(t.Defs))
	}
	c.clauses(t.Defs, b)
	for _, k := range t.Kids {
		c.process(k, b)
	}
	c.WriteString(")")
}

func (c *coded) clauses(l []api.TermClause, b bound) {
	for _, d := range l {
		fmt.Fprintf(c, "{%d ", d.Form)
		var names []string
		for _, j := range d.Joins {
			fmt.Fprintf(c, "%s/%d ", b[j.Text], len(j.Names))
			names = append(names, j.Names...)
		}
		in := b
		if d.Form == api.TermRule {
			in = c.more(b, names)
		} else {
			c.WriteString(b[d.Text])
		}
		c.clauses(d.Defs, in)
		for _, k := range d.Kids {
			c.process(k, in)
		}
		c.WriteString("}")
	}
}

// defined returns what some Defs define, channels first: level by level in the order in which places stand.
func defined(defs []api.TermClause) []string {
	var places []string
	lists := [][]api.TermClause{}
	var walk func(l []api.TermClause)
	walk = func(l []api.TermClause) {
		lists = append(lists, l)
		for _, d := range l {
			if d.Form == api.TermPlace {
				places = append(places, d.Text)
				walk(d.Defs)
			}
		}
	}
	walk(defs)
	var out []string
	for _, l := range lists {
		for _, d := range l {
			for _, j := range d.Joins {
				if !slices.Contains(out, j.Text) {
					out = append(out, j.Text)
				}
			}
		}
	}
	return append(out, places...)
}

// binders returns what the parts of a process bind, part by part, each before its parts.
func binders(t api.Term) [][]string {
	var out [][]string
	if t.Op == api.TermDef {
		out = append(out, defined(t.Defs))
	}
	var clauses func(l []api.TermClause)
	clauses = func(l []api.TermClause) {
		for _, d := range l {
			var names []string
			for _, j := range d.Joins {
				names = append(names, j.Names...)
			}
			if d.Form == api.TermRule {
				out = append(out, names)
			}
			clauses(d.Defs)
			for _, k := range d.Kids {
				out = append(out, binders(k)...)
			}
		}
	}
	clauses(t.Defs)
	for _, k := range t.Kids {
		out = append(out, binders(k)...)
	}
	return out
}

// formedOnes calls f with processes that are formed, made by chance but each time the same ones.
func formedOnes(t *testing.T, f func(seed int64, u api.Term)) {
	for seed := int64(0); seed < 600 && !t.Failed(); seed++ {
		f(seed, random(seed))
	}
}
