package read_test

import (
	"fmt"
	"math/rand"
	"slices"
	"strings"
	"testing"

	"cabotage/api"
	"cabotage/term"
)

// example is the source T of the chapter.
const example = "def x(a) & y() = z(a, b) // both\nand place p { in go q; x(1) } in y() | watch p; 0\n"

// text writes all that there is in a value, nil and empty lists alike: it is compared by this text.
func text(x any) string {
	return strings.ReplaceAll(fmt.Sprintf("%#v", x), "(nil)", "{}")
}

func same(a, b any) bool { return text(a) == text(b) }

func name(s string) api.TermExp { return api.TermExp{Op: api.TermName, Text: s} }

func num(n int) api.TermExp { return api.TermExp{Op: api.TermInt, N: n} }

func two(op api.TermSign, a, b api.TermExp) api.TermExp {
	return api.TermExp{Op: op, Kids: []api.TermExp{a, b}}
}

func zero() api.Term { return api.Term{Op: api.TermNil} }

func stop() api.Term { return api.Term{Op: api.TermStop} }

func send(s string, l ...api.TermExp) api.Term {
	return api.Term{Op: api.TermSend, Text: s, Args: l}
}

func par(a, b api.Term) api.Term { return api.Term{Op: api.TermPar, Kids: []api.Term{a, b}} }

func toward(op api.TermOp, s string, t api.Term) api.Term {
	return api.Term{Op: op, Text: s, Kids: []api.Term{t}}
}

func choose(e api.TermExp, a, b api.Term) api.Term {
	return api.Term{Op: api.TermIf, Args: []api.TermExp{e}, Kids: []api.Term{a, b}}
}

func define(t api.Term, l ...api.TermClause) api.Term {
	return api.Term{Op: api.TermDef, Defs: l, Kids: []api.Term{t}}
}

func rule(t api.Term, l ...api.TermMsg) api.TermClause {
	return api.TermClause{Form: api.TermRule, Joins: l, Kids: []api.Term{t}}
}

func place(s string, t api.Term, l ...api.TermClause) api.TermClause {
	return api.TermClause{Form: api.TermPlace, Text: s, Defs: l, Kids: []api.Term{t}}
}

func msg(s string, l ...string) api.TermMsg { return api.TermMsg{Text: s, Names: l} }

// exampleTerm is what T says.
func exampleTerm() api.Term {
	return define(par(send("y"), toward(api.TermWatch, "p", zero())),
		rule(send("z", name("a"), name("b")), msg("x", "a"), msg("y")),
		place("p", toward(api.TermGo, "q", send("x", num(1)))))
}

// unformed are processes that are not formed, each in another way.
func unformed() []api.Term {
	loop := api.Term{Op: api.TermPar, Kids: make([]api.Term, 2)}
	loop.Kids[0], loop.Kids[1] = loop, loop
	one, four := num(1), []api.TermExp{num(1), num(1), num(1), num(1)}
	return []api.Term{
		{}, {Op: 9}, {Op: -1}, send("then"), send(""), send("a1"), send("abcdefghi"), send("a", four...), send("a", two(api.TermAdd, one, api.TermExp{})), send("a", num(1000000001)),
		{Op: api.TermNil, Text: "a"}, {Op: api.TermPar}, par(zero(), par(zero(), api.Term{})), {Op: api.TermDef, Kids: []api.Term{zero()}}, {Op: api.TermIf}, {Op: api.TermGo, Text: "p"},
		define(zero(), rule(zero())), define(zero(), rule(zero(), msg("x", "a"), msg("y", "a"))), define(zero(), rule(zero(), msg("x")), rule(zero(), msg("x", "a"))), define(zero(), place("x", zero()), rule(zero(), msg("x"))), loop,
	}
}

// made makes processes.
type made struct {
	*rand.Rand
	left int
}

// formedOnes calls f with processes that are formed, made by chance but each time the same ones.
func formedOnes(t *testing.T, many int, f func(m *rand.Rand, u api.Term)) {
	m := &made{Rand: rand.New(rand.NewSource(2))}
	for n := 0; n < many && !t.Failed(); {
		m.left = 5 + m.Intn(40)
		if u := m.process(5); term.Check(u) == api.OK {
			n++
			f(m.Rand, u)
		}
	}
}

func (m *made) name() string {
	for {
		s := strings.Repeat(string(rune('a'+m.Intn(26))), 1+m.Intn(3)*m.Intn(2))
		if m.Intn(20) == 0 {
			s = []string{"i", "goto", "an", "define", "watche", "places", "e", "stopstop"}[m.Intn(8)]
		}
		if isName(s) {
			return s
		}
	}
}

func (m *made) names() []string {
	var l []string
	for range m.Intn(4) {
		l = append(l, m.name())
	}
	return l
}

func (m *made) int() int {
	switch m.Intn(6) {
	case 0:
		return m.Intn(api.TermMost + 1)
	case 1:
		return -m.Intn(api.TermMost + 1)
	}
	return m.Intn(4) - 1
}

func (m *made) exp(deep int) api.TermExp {
	m.left--
	switch k := m.Intn(8); {
	case deep > 1 && m.left > 0 && k > 2:
		return two(api.TermAdd+api.TermSign(m.Intn(5)), m.exp(deep-1), m.exp(deep-1))
	case k == 0:
		return name(m.name())
	}
	return num(m.int())
}

func (m *made) process(deep int) api.Term {
	m.left--
	k := m.Intn(12)
	switch {
	case deep <= 1 || m.left < 1 || k < 3:
		t := send(m.name())
		for range m.Intn(4) {
			t.Args = append(t.Args, m.exp(4))
		}
		return t
	case k < 4:
		return []api.Term{zero(), stop()}[m.Intn(2)]
	case k < 6:
		return toward(api.TermGo+api.TermOp(2*m.Intn(2)), m.name(), m.process(deep-1))
	case k < 7:
		return choose(m.exp(4), m.process(deep-1), m.process(deep-1))
	case k < 10:
		return par(m.process(deep-1), m.process(deep-1))
	}
	t := define(m.process(deep-1), m.clause(deep-1))
	for range m.Intn(3) {
		t.Defs = append(t.Defs, m.clause(deep-1))
	}
	return t
}

func (m *made) clause(deep int) api.TermClause {
	m.left--
	if m.Intn(3) == 0 {
		c := place(m.name(), m.process(deep-1))
		for range m.Intn(3) {
			c.Defs = append(c.Defs, m.clause(deep-1))
		}
		return c
	}
	c := rule(m.process(deep - 1))
	for range 1 + m.Intn(3) {
		c.Joins = append(c.Joins, msg(m.name(), m.names()...))
	}
	return c
}

// writer writes a process as a source, with blanks and brackets as they come, and says where its nodes are.
type writer struct {
	*rand.Rand
	strings.Builder
	brackets bool // whether there are more than the grammar needs
	spots    []api.ReadSpot
	begun    []int // nodes of which no token was written
	before   string
}

// source returns a process as a source, and the spots of its nodes.
func source(m *rand.Rand, u api.Term, brackets bool) (string, []api.ReadSpot) {
	w := &writer{Rand: m, brackets: brackets}
	w.process(u, false)
	w.blanks()
	return w.String(), w.spots
}

func (w *writer) blanks() {
	for range w.Intn(3) * w.Intn(2) {
		w.WriteString([]string{" ", "\t", "\n", "//\n", "// and so on; def \xff $\n", "  "}[w.Intn(6)])
	}
}

// melt reports whether two tokens would be another one, or others, without a blank between them.
func melt(a, b string) bool {
	c := cut(a + b)
	return c.bad >= 0 || !slices.Equal(c.texts, []string{a, b})
}

func (w *writer) word(s string) {
	w.blanks()
	if text := w.String(); text != "" && melt(w.before, s) && !strings.HasSuffix(text, "\n") {
		w.WriteString(" ")
	}
	for _, i := range w.begun {
		w.spots[i].From = w.Len()
	}
	w.begun, w.before = nil, s
	w.WriteString(s)
}

func (w *writer) words(l ...string) {
	for _, s := range l {
		w.word(s)
	}
}

// node writes a node, within brackets if they are needed, and perhaps within others.
func (w *writer) node(needed bool, write func()) {
	many := 0
	if needed {
		many = 1
	}
	if w.brackets && w.Intn(4) == 0 {
		many += 1 + w.Intn(2)
	}
	w.words(slices.Repeat([]string{"("}, many)...)
	w.bare(write)
	w.words(slices.Repeat([]string{")"}, many)...)
}

// bare writes a node without brackets around it.
func (w *writer) bare(write func()) {
	i := len(w.spots)
	w.spots = append(w.spots, api.ReadSpot{})
	w.begun = append(w.begun, i)
	write()
	w.spots[i].To = w.Len()
}

func comma[T any](w *writer, sign string, l []T, write func(T)) {
	for i, x := range l {
		if i > 0 {
			w.word(sign)
		}
		write(x)
	}
}

func (w *writer) process(t api.Term, first bool) {
	small := t.Op == api.TermNil || t.Op == api.TermStop || t.Op == api.TermSend
	w.node(first && !small, func() {
		switch t.Op {
		case api.TermNil:
			w.word("0")
		case api.TermStop:
			w.word("stop")
		case api.TermSend:
			w.words(t.Text, "(")
			comma(w, ",", t.Args, func(e api.TermExp) { w.exp(e, 0) })
			w.word(")")
		case api.TermPar:
			w.process(t.Kids[0], true)
			w.word("|")
			w.process(t.Kids[1], false)
		case api.TermDef:
			w.word("def")
			comma(w, "and", t.Defs, w.clause)
			w.word("in")
			w.process(t.Kids[0], false)
		case api.TermIf:
			w.word("if")
			w.exp(t.Args[0], 0)
			w.word("then")
			w.process(t.Kids[0], false)
			w.word("else")
			w.process(t.Kids[1], false)
		default:
			w.words(map[api.TermOp]string{api.TermGo: "go", api.TermWatch: "watch"}[t.Op], t.Text, ";")
			w.process(t.Kids[0], false)
		}
	})
}

func (w *writer) clause(c api.TermClause) {
	w.bare(func() {
		if c.Form == api.TermPlace {
			w.words("place", c.Text, "{")
			comma(w, "and", c.Defs, w.clause)
			w.word("in")
			w.process(c.Kids[0], false)
			w.word("}")
			return
		}
		comma(w, "&", c.Joins, func(j api.TermMsg) {
			w.words(j.Text, "(")
			comma(w, ",", j.Names, w.word)
			w.word(")")
		})
		w.word("=")
		w.process(c.Kids[0], false)
	})
}

// exp writes an expression where the grammar has exp (0), sum, product or atom (3).
func (w *writer) exp(e api.TermExp, asked int) {
	at := map[api.TermSign][3]int{api.TermAdd: {1, 1, 2}, api.TermSub: {1, 1, 2}, api.TermMul: {2, 2, 3}, api.TermLess: {0, 1, 1}, api.TermSame: {0, 1, 1}, api.TermInt: {3}, api.TermName: {3}}[e.Op]
	w.node(at[0] < asked, func() {
		switch e.Op {
		case api.TermInt:
			w.word(strings.Replace(fmt.Sprint(e.N), "-", "~", 1))
		case api.TermName:
			w.word(e.Text)
		default:
			w.exp(e.Kids[0], at[1])
			w.word(map[api.TermSign]string{api.TermAdd: "+", api.TermSub: "-", api.TermMul: "*", api.TermLess: "<", api.TermSame: "=="}[e.Op])
			w.exp(e.Kids[1], at[2])
		}
	})
}

// nodes returns the nodes of a process, each before its parts.
func nodes(t api.Term) []any {
	l := []any{t}
	for _, e := range t.Args {
		l = append(l, nodesOfExp(e)...)
	}
	for _, c := range t.Defs {
		l = append(l, nodesOfClause(c)...)
	}
	for _, k := range t.Kids {
		l = append(l, nodes(k)...)
	}
	return l
}

func nodesOfExp(e api.TermExp) []any {
	l := []any{e}
	for _, k := range e.Kids {
		l = append(l, nodesOfExp(k)...)
	}
	return l
}

func nodesOfClause(c api.TermClause) []any {
	l := []any{c}
	for _, d := range c.Defs {
		l = append(l, nodesOfClause(d)...)
	}
	for _, k := range c.Kids {
		l = append(l, nodes(k)...)
	}
	return l
}

// spoilt returns the texts of a source's tokens with some of them changed.
func spoilt(m *rand.Rand, u api.Term) []string {
	s, _ := source(m, u, true)
	l := cut(s).texts
	for range m.Intn(3) {
		i, k := m.Intn(len(l)), m.Intn(len(words)+2)
		w := slices.Concat(words, []string{"x", "~5"})[k]
		switch m.Intn(4) {
		case 0:
			l = slices.Delete(slices.Clone(l), i, i+1)
		case 1:
			l = slices.Insert(slices.Clone(l), i, w)
		case 2:
			l = slices.Clone(l)
			l[i] = w
		case 3:
			l = l[:i]
		}
		if len(l) == 0 {
			break
		}
	}
	return l
}
