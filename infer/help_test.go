package infer_test

import (
	"fmt"
	"math/rand"
	"slices"
	"strconv"
	"strings"
	"testing"

	"cabotage/api"
	"cabotage/infer"
	"cabotage/read"
	"cabotage/term"
)

// The processes of the chapter's examples.
const (
	procA = "x(1 + y) | go y; 0"
	procB = "def x(a, k) = k(a) in x(1, out) | x(out, q)"
	procC = "def get(k) & cell(a) = k(a) | cell(a) in cell(1) | get(out)"
	procD = "def x(a) & y(b) = 0 in x(1) | x(p) | y(x)"
)

// large is a process without free names, which types with a type of 364 nodes.
const large = "def a() = b(a, a, a) and b(u, v, w) = c(b, b, b) and c(u, v, w) = d(c, c, c) and d(u, v, w) = e(d, d, d) and place p { e(u, v, w) = f(e, e, e) and f(u, v, w) = 0 in 0 } in 0"

// process is what a source says.
func process(s string) api.Term {
	t, e := read.Parse(s)
	if e != api.OK {
		panic(fmt.Sprint(s, ": ", e))
	}
	return t
}

// source is the source of a process.
func source(t api.Term) string {
	s, e := read.Print(t)
	if e != api.OK {
		return fmt.Sprint(t)
	}
	return s
}

// unformed returns processes that are not formed.
func unformed() []api.Term {
	nothing := api.Term{Op: api.TermNil}
	circle := make([]api.Term, 2)
	circle[0] = api.Term{Op: api.TermPar, Kids: circle}
	circle[1] = nothing
	return []api.Term{
		{}, {Op: 99}, {Op: api.TermSend}, {Op: api.TermSend, Text: "in"}, {Op: api.TermPar, Kids: []api.Term{nothing}},
		{Op: api.TermGo, Text: "p"}, {Op: api.TermIf, Kids: []api.Term{nothing, nothing}}, {Op: api.TermDef, Kids: []api.Term{nothing}},
		{Op: api.TermSend, Text: "x", Args: []api.TermExp{{Op: api.TermAdd}}}, {Op: api.TermSend, Text: "x", Args: make([]api.TermExp, 4)}, circle[0],
		{Op: api.TermDef, Defs: []api.TermClause{{Form: api.TermRule, Joins: []api.TermMsg{{Text: "x"}, {Text: "x"}}, Kids: []api.Term{nothing}}}, Kids: []api.Term{nothing}},
	}
}

// types reads types in the chapter's notation, with commas between them.
func types(s string) []api.InferType {
	r := &letters{strings.ReplaceAll(s, " ", "")}
	l := r.types()
	if r.left != "" {
		panic("no types: " + s)
	}
	return l
}

func ty(s string) api.InferType { return types(s)[0] }

type letters struct{ left string }

func (r *letters) skip(s string) bool {
	rest, ok := strings.CutPrefix(r.left, s)
	r.left = rest
	return ok
}

func (r *letters) types() []api.InferType {
	var l []api.InferType
	for r.left != "" && r.left[0] != ')' {
		l = append(l, r.one())
		r.skip(",")
	}
	return l
}

func (r *letters) one() api.InferType {
	switch {
	case r.skip("int"):
		return api.InferType{Op: api.InferInt}
	case r.skip("place"):
		return api.InferType{Op: api.InferPlace}
	case r.skip("chan("):
		t := api.InferType{Op: api.InferChan, Kids: r.types()}
		r.skip(")")
		return t
	}
	end := strings.IndexAny(r.left+",", ",)")
	n, e := strconv.Atoi(r.left[:end])
	if e != nil {
		panic("no type: " + r.left)
	}
	r.left = r.left[end:]
	return variable(n)
}

func variable(n int) api.InferType { return api.InferType{Op: api.InferVar, N: n} }

// show writes a type in the chapter's notation, and all that a type must not have besides.
func show(t api.InferType) string {
	s := "?" + strconv.Itoa(int(t.Op))
	n, kids := 0, 0
	switch t.Op {
	case api.InferInt:
		s = "int"
	case api.InferPlace:
		s = "place"
	case api.InferChan:
		s, kids = "chan("+showAll(t.Kids)+")", len(t.Kids)
	case api.InferVar:
		s, n = strconv.Itoa(t.N), t.N
	}
	if t.N != n || len(t.Kids) != kids {
		s += fmt.Sprint("!", t.N, t.Kids)
	}
	return s
}

func showAll(l []api.InferType) string {
	var out []string
	for _, t := range l {
		out = append(out, show(t))
	}
	return strings.Join(out, ", ")
}

// showTyping writes the types of free names; behind a semicolon for each TermDef, its schemes, as the chapter writes them.
func showTyping(y api.InferTyping) string {
	out := showAll(y.Free)
	for _, d := range y.Defs {
		var l []string
		for _, s := range d {
			x := show(s.Type)
			for i, n := range s.All {
				x += []string{": ", " "}[min(i, 1)] + strconv.Itoa(n)
			}
			l = append(l, x)
		}
		out += "; " + strings.Join(l, ", ")
	}
	return strings.TrimSpace(out)
}

// showDemands writes demands: each as what is wished, its part and N.
func showDemands(l []api.InferDemand) string {
	words := map[api.InferWish]string{api.InferOperand: "operand", api.InferAlike: "alike", api.InferSend: "send", api.InferTest: "test", api.InferGo: "go", api.InferWatch: "watch", api.InferJoin: "join"}
	var out []string
	for _, d := range l {
		s := words[d.Wish] + " " + strconv.Itoa(d.Part)
		if d.Wish == api.InferOperand || d.Wish == api.InferJoin || d.N != 0 {
			s += "." + strconv.Itoa(d.N)
		}
		out = append(out, s)
	}
	return strings.Join(out, ", ")
}

// list returns the numbers from 0 on, so many.
func list(many int) []int {
	var l []int
	for i := range many {
		l = append(l, i)
	}
	return l
}

// allTypes reports whether all demands can be met together.
func allTypes(t *testing.T, u api.Term) bool {
	t.Helper()
	l, _ := infer.Demands(u)
	is, e := infer.Types(u, list(len(l)))
	if e != api.OK {
		t.Fatal(source(u), e)
	}
	return is
}

// made makes processes by chance, but each time the same ones. So that many of them type, a letter tells how many values its messages bring, and p and q are places for the most part.
type made struct {
	*rand.Rand
	left  int
	bound string // the channels around
}

var brings = map[string]int{"a": 1, "b": 2, "c": 1, "d": 0, "e": 1, "f": 3, "p": 1, "q": 1}

// random returns a process: one in three has rules that take messages together, and another one these and no free names: n wants an integer, g a place, s a channel.
func random(seed int64) api.Term {
	r := rand.New(rand.NewSource(seed))
	switch joined := (&made{Rand: r}).joined(); seed % 3 {
	case 0:
		return process(joined)
	case 1:
		return process("def n(i) = if i then 0 else 0 and g(i) = go i; 0 and s(i) = i(1) and place h { in 0 } in " + joined)
	}
	for {
		m := &made{Rand: r, left: 8 + r.Intn(40)}
		if t := m.process(9); term.Check(t) == api.OK {
			return t
		}
	}
}

// processes calls f with processes by chance.
func processes(t *testing.T, many int, f func(seed int64, u api.Term)) {
	for seed := int64(0); seed < int64(many) && !t.Failed(); seed++ {
		f(seed, random(seed))
	}
}

func (m *made) pick(l string) string { return string(l[m.Intn(len(l))]) }

func (m *made) exp() api.TermExp {
	m.left--
	k := m.Intn(20)
	if k < 3 && m.left > 0 {
		return api.TermExp{Op: api.TermAdd + api.TermSign(m.Intn(5)), Kids: []api.TermExp{m.exp(), m.exp()}}
	} else if k < 8 {
		return api.TermExp{Op: api.TermInt, N: m.Intn(3)}
	}
	return api.TermExp{Op: api.TermName, Text: m.pick("abcdefpqxyzuvw")}
}

func (m *made) process(deep int) api.Term {
	m.left--
	k := m.Intn(16)
	if deep <= 1 || m.left < 1 {
		k = 0
	}
	switch {
	case k < 2:
		return api.Term{Op: api.TermNil}
	case k < 6:
		return m.send()
	case k < 7:
		return api.Term{Op: api.TermGo + api.TermOp(2*m.Intn(2)), Text: m.pick("pqpqpqa"), Kids: []api.Term{m.process(deep - 1)}}
	case k < 8:
		return api.Term{Op: api.TermIf, Args: []api.TermExp{m.exp()}, Kids: []api.Term{m.process(deep - 1), m.process(deep - 1)}}
	case k < 11:
		return api.Term{Op: api.TermPar, Kids: []api.Term{m.process(deep - 1), m.process(deep - 1)}}
	}
	return m.def(deep)
}

// send makes a message, on a channel around for the most part.
func (m *made) send() api.Term {
	t := api.Term{Op: api.TermSend, Text: m.pick("abcdefabcdefabcdefpx")}
	if m.bound != "" && m.Intn(3) > 0 {
		t.Text = m.pick(m.bound)
	}
	for range brings[t.Text] {
		t.Args = append(t.Args, m.exp())
	}
	return t
}

// def makes a TermDef; each channel is in its own Defs or in those of a place.
func (m *made) def(deep int) api.Term {
	var own, inner []string
	for _, i := range m.Perm(6) {
		switch m.Intn(4) {
		case 0, 1:
			own = append(own, string("abcdef"[i]))
		case 2:
			inner = append(inner, string("abcdef"[i]))
		}
	}
	defer func(l string) { m.bound = l }(m.bound)
	m.bound += strings.Join(own, "")
	t := api.Term{Op: api.TermDef, Defs: m.rules(deep, own)}
	if len(t.Defs) == 0 || m.Intn(3) == 0 {
		p := api.TermClause{Form: api.TermPlace, Text: m.pick("pq"), Defs: m.rules(deep-1, inner), Kids: []api.Term{m.process(deep - 2)}}
		t.Defs = slices.Insert(t.Defs, m.Intn(len(t.Defs)+1), p)
	}
	kid := m.process(deep - 1)
	for range m.Intn(4) {
		kid = api.Term{Op: api.TermPar, Kids: []api.Term{m.send(), kid}}
	}
	t.Kids = []api.Term{kid}
	return t
}

func (m *made) rules(deep int, l []string) []api.TermClause {
	var out []api.TermClause
	for range min(len(l), 1+m.Intn(3)) {
		m.left--
		c := api.TermClause{Form: api.TermRule}
		values := m.Perm(10)
		for _, k := range m.Perm(len(l))[:1+m.Intn(min(len(l), 3))] {
			j := api.TermMsg{Text: l[k]}
			for range brings[l[k]] {
				j.Names = append(j.Names, string("abcdefxyzu"[values[0]]))
				values = values[1:]
			}
			c.Joins = append(c.Joins, j)
		}
		c.Kids = []api.Term{m.process(deep - 2)}
		out = append(out, c)
	}
	return out
}

// joined makes the source of a process in which rules take messages together, and hand on what these bring.
func (m *made) joined() string {
	var rules []string
	for range 1 + m.Intn(2) {
		rules = append(rules, []string{"x(a) = " + m.body("a"), "y(b) = " + m.body("b"), "x(a) & y(b) = " + m.body("ab"), "x(a) & y(b) = " + m.body("ab"), "y(b) & x(a) = " + m.body("ab")}[m.Intn(5)])
	}
	text := "x(c) = 0 and y(c) = 0 and " + strings.Join(rules, " and ")
	if m.Intn(3) == 0 {
		text = "place q { " + text + " in " + m.message("xy", "ghnsxy1") + " }"
	}
	kid := m.message("xy", "ghnsxy1")
	for range 1 + m.Intn(4) {
		kid += " | " + m.message("xyxyxysgn", "ghnsxy1")
	}
	return "def " + text + " in " + kid
}

func (m *made) message(to, what string) string { return m.pick(to) + "(" + m.pick(what) + ")" }

// body makes what is done with some names.
func (m *made) body(names string) string {
	switch m.Intn(5) {
	case 0:
		return "def z(c) = " + m.message(names+"xy", "c") + " in z(" + m.pick(names+"1h") + ") | z(" + m.pick(names+"1nh") + ")"
	case 1:
		return "if " + m.pick(names) + " == " + m.pick(names) + " then 0 else " + m.message(names, names+"1")
	}
	return m.message(names+names+"xy", names)
}

// someType makes a type with at most some nodes.
func (m *made) someType(nodes int) api.InferType {
	switch k := m.Intn(6); {
	case k < 2 || nodes < 2:
		return variable(m.Intn(3))
	case k < 3:
		return ty("int")
	case k < 4:
		return ty("place")
	}
	t := ty("chan()")
	for range m.Intn(4) {
		t.Kids = append(t.Kids, m.someType(nodes/3))
	}
	return t
}
