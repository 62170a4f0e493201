package infer

import "cabotage/api"

// nodeOf returns the node of a type, with a node for each variable by its number.
func nodeOf(t api.InferType, variable func(number int) *node) *node {
	switch t.Op {
	case api.InferInt:
		return newInteger()
	case api.InferPlace:
		return newPlace()
	case api.InferVar:
		return variable(t.N)
	}
	return newChannel(each(t.Kids, func(k api.InferType) *node { return nodeOf(k, variable) }))
}

func nodesOf(l []api.InferType, variable func(number int) *node) []*node {
	return each(l, func(t api.InferType) *node { return nodeOf(t, variable) })
}

// shared returns what makes one variable for each number.
func shared() func(number int) *node {
	made := map[int]*node{}
	return func(number int) *node {
		if made[number] == nil {
			made[number] = newVariable()
		}
		return made[number]
	}
}

// mention is a variable as it is numbered: if it is general for a channel, it is another one for each.
type mention struct {
	variable *node
	of       int // the number of the channel, from 1 on; 0 if it is not general
}

// writer writes types, and numbers their variables in the order in which they come.
type writer struct {
	numbers map[mention]int
	size    int
	channel int
	general set
	all     []int
}

func newWriter() *writer { return &writer{numbers: map[mention]int{}} }

func (w *writer) typing(x typing) api.InferTyping {
	var out api.InferTyping
	for _, n := range x.free {
		out.Free = append(out.Free, w.whole(n))
	}
	for _, d := range x.defs {
		out.Defs = append(out.Defs, w.schemes(d))
	}
	return out
}

func (w *writer) schemes(d *definition) []api.InferScheme {
	var l []api.InferScheme
	w.general = d.general
	for _, n := range d.types {
		w.channel++
		w.all = nil
		t := w.whole(n)
		l = append(l, api.InferScheme{Type: t, All: w.all})
	}
	return l
}

// whole writes a type, or gives up if it has too many nodes: they are counted on the way, as there can be more than memory holds.
func (w *writer) whole(n *node) api.InferType {
	w.size = 0
	return w.write(n)
}

func (w *writer) write(n *node) api.InferType {
	w.size++
	must(w.size <= api.InferMost, api.ErrLong)
	n = n.now()
	switch k := n.kind.(type) {
	case integer:
		return api.InferType{Op: api.InferInt}
	case place:
		return api.InferType{Op: api.InferPlace}
	case channel:
		return api.InferType{Op: api.InferChan, Kids: each(k.brings, w.write)}
	}
	return api.InferType{Op: api.InferVar, N: w.number(n)}
}

func (w *writer) number(v *node) int {
	m := mention{variable: v}
	if w.general[v] {
		m.of = w.channel
	}
	n, ok := w.numbers[m]
	if !ok {
		n = len(w.numbers)
		must(n <= api.InferVars, api.ErrLong)
		w.numbers[m] = n
		if m.of > 0 {
			w.all = append(w.all, n)
		}
	}
	return n
}
