package sample

import (
	"slices"
	"strings"
)

// The kinds of processes, as a mix says them.
const (
	nothing = '0'
	stop    = 's'
	send    = 'm'
	leave   = 'g'
	watch   = 'w'
	test    = 'i'
	beside  = '|'
	define  = 'd'
)

// Mix says what sources have.
type Mix struct {
	kinds  string // each process is one of these, and more often one that stands there more often
	size   int    // about how many processes there are at most
	places int    // a TermDef has fewer places than that
}

// In Lively places travel, stop and watch each other; Plain has more definitions and choices, and is smaller.
var (
	Lively = Mix{"0smmmmmmmggggwwwi||||ddddd", 24, 4}
	Plain  = Mix{"0smmmmmmmmggwwiii||||dddddddd", 14, 2}
)

// What is not known of a name: how many values its messages bring, or that it is a place.
const (
	place   = -1
	unknown = -2
)

// known is a name, and how many values its messages bring.
type known struct {
	text   string
	brings int
}

// writer writes a source. Each name is bound once.
type writer struct {
	choose      Choose
	mix         Mix
	left, bound int
}

// Source returns the source of a TermDef whose free names are out and q. It can be too large.
func Source(choose Choose, mix Mix) string {
	w := &writer{choose, mix, 6 + choose(mix.size-6), 0}
	return w.def([]known{{"out", unknown}, {"q", unknown}}, 6)
}

// fresh returns a name that is not bound yet.
func (w *writer) fresh() string {
	w.bound++
	return "v" + letter(w.bound/26) + letter(w.bound%26)
}

func letter(n int) string { return "abcdefghijklmnopqrstuvwxyz"[n : n+1] }

// pick returns a name; a place for the most part if it is asked for one, else no place for the most part.
func (w *writer) pick(l []known, isPlace bool) known {
	for range 8 {
		if k := l[w.choose(len(l))]; (k.brings == place) == isPlace {
			return k
		}
	}
	return l[w.choose(len(l))]
}

func (w *writer) one(l ...string) string { return l[w.choose(len(l))] }

func (w *writer) exp(l []known) string {
	switch k := w.choose(14); {
	case k < 2:
		return w.one("0", "1", "2", "1000000000", "(0 - 7)")
	case k < 4:
		return "(" + w.exp(l) + w.one(" + ", " - ", " * ", " < ", " == ") + w.exp(l) + ")"
	}
	return l[w.choose(len(l))].text
}

// message writes a message on a name: for the most part with as many values as the channel's messages bring.
func (w *writer) message(to known, l []known) string {
	many := to.brings
	if many < 0 || w.choose(10) == 0 {
		many = w.choose(3)
	}
	var args []string
	for range many {
		args = append(args, w.exp(l))
	}
	return to.text + "(" + strings.Join(args, ", ") + ")"
}

func (w *writer) process(l []known, deep int) string {
	w.left--
	kind := w.mix.kinds[w.choose(len(w.mix.kinds))]
	if deep == 0 || w.left <= 0 {
		kind = "0smmmmmm"[w.choose(8)]
	}
	switch kind {
	case nothing:
		return "0"
	case stop:
		return "stop"
	case leave:
		return "(go " + w.pick(l, true).text + "; " + w.process(l, deep-1) + ")"
	case watch:
		return "(watch " + w.pick(l, true).text + "; " + w.process(l, deep-1) + ")"
	case test:
		return "(if " + w.exp(l) + " then " + w.process(l, deep-1) + " else " + w.process(l, deep-1) + ")"
	case beside:
		return "(" + w.process(l, deep-1) + " | " + w.process(l, deep-1) + ")"
	case define:
		return w.def(l, deep)
	}
	return w.message(w.pick(l, false), l)
}

// def writes a TermDef: it chooses all names first, as they are around all that it has. Its channels have messages for the most part.
func (w *writer) def(l []known, deep int) string {
	chans := w.chans(1 + w.choose(3))
	l, all := slices.Concat(l, chans), chans
	var inner [][]known // of each place its name, and its channels
	for range w.choose(w.mix.places) {
		k := append([]known{{w.fresh(), place}}, w.chans(w.choose(2))...)
		l, all, inner = slices.Concat(l, k), slices.Concat(all, k[1:]), append(inner, k)
	}
	clauses := append(w.rules(l, chans, deep), w.places(l, inner, deep)...)
	kid := w.process(l, deep-1)
	for _, c := range all {
		for range []int{0, 1, 1, 2}[w.choose(4)] {
			kid = w.message(c, l) + " | " + kid
		}
	}
	return "(def " + strings.Join(clauses, " and ") + " in " + kid + ")"
}

func (w *writer) chans(many int) []known {
	var l []known
	for range many {
		l = append(l, known{w.fresh(), w.choose(3)})
	}
	return l
}

// places writes places, each one beside the one before, or in it.
func (w *writer) places(l []known, inner [][]known, deep int) []string {
	if len(inner) == 0 {
		return nil
	}
	held, others := w.places(l, inner[1:], deep), []string(nil)
	if w.choose(2) == 0 {
		held, others = nil, held
	}
	defs := append(w.rules(l, inner[0][1:], deep), held...)
	return append([]string{w.place(inner[0][0].text, defs, w.process(l, deep-1))}, others...)
}

func (w *writer) place(name string, defs []string, kid string) string {
	return "place " + name + " { " + strings.Join(defs, " and ") + " in " + kid + " }"
}

// rules writes rules in which each of some channels stands, and perhaps one more rule of some of them.
func (w *writer) rules(l, chans []known, deep int) []string {
	var out []string
	for left := chans; len(left) > 0; {
		many := 1 + w.choose(min(len(left), 2))
		out = append(out, w.rule(l, left[:many], deep))
		left = left[many:]
	}
	if len(chans) > 0 && w.choose(3) == 0 {
		var joins []known
		for _, i := range w.choose.order(len(chans))[:1+w.choose(len(chans))] {
			joins = append(joins, chans[i])
		}
		out = append(out, w.rule(l, joins, deep))
	}
	return out
}

func (w *writer) rule(l, joins []known, deep int) string {
	var heads []string
	for _, c := range joins {
		var names []string
		for range c.brings {
			n := known{w.fresh(), unknown}
			names = append(names, n.text)
			l = slices.Concat(l, []known{n, n}) // twice, so that it is chosen more often
		}
		heads = append(heads, c.text+"("+strings.Join(names, ", ")+")")
	}
	return strings.Join(heads, " & ") + " = " + w.process(l, deep-1)
}

// Mortal returns the source of four places, in each other by chance, that go, stop and watch.
func Mortal(choose Choose) string {
	w := &writer{choose: choose}
	var held [5][]string // what is written in each place; the last one is around them
	for k := range 4 {
		rule := "x" + letter(k) + "(a) = out(a) | (watch a; out(a))"
		in := k + 1 + choose(4-k)
		held[in] = append(held[in], w.place("p"+letter(k), append(held[k], rule), w.acts()))
	}
	return "def " + strings.Join(held[4], " and ") + " in " + w.acts()
}

// acts writes what is done in a place.
func (w *writer) acts() string {
	var l []string
	for range 1 + w.choose(2) {
		p, other := "p"+letter(w.choose(4)), "p"+letter(w.choose(4))
		x := "x" + letter(w.choose(4)) + "(" + other + ")"
		l = append(l, w.one("stop", x, "(go "+p+"; "+x+")", "(watch "+p+"; "+x+")", "(watch "+p+"; stop)", "(watch "+p+"; go "+other+"; out("+p+"))"))
	}
	return strings.Join(l, " | ")
}
