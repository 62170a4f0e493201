package infer_test

import (
	"slices"

	"cabotage/api"
	"cabotage/term"
)

// become is what variables have become, as far as that is known: types are trees, and nothing of them is shared.
type become map[int]api.InferType

// first returns what a type itself has become; its Kids are left as they are.
func (b become) first(t api.InferType) api.InferType {
	if u, ok := b[t.N]; ok && t.Op == api.InferVar {
		return b.first(u)
	}
	return t
}

// full returns a type in which no variable has become anything.
func (b become) full(t api.InferType) api.InferType {
	t = b.first(t)
	var kids []api.InferType
	for _, k := range t.Kids {
		kids = append(kids, b.full(k))
	}
	t.Kids = kids
	return t
}

// equal makes two types equal, and reports whether they can be.
func (b become) equal(x, y api.InferType) bool {
	x, y = b.first(x), b.first(y)
	switch {
	case x.Op == api.InferVar && y.Op == api.InferVar && x.N == y.N:
		return true
	case x.Op == api.InferVar && x.N >= 0:
		if slices.Contains(varsOf(b.full(y)), x.N) {
			return false
		}
		b[x.N] = y
		return true
	case y.Op == api.InferVar && y.N >= 0:
		return b.equal(y, x)
	case x.Op != y.Op || x.N != y.N || len(x.Kids) != len(y.Kids):
		return false
	}
	for i := range x.Kids {
		if !b.equal(x.Kids[i], y.Kids[i]) {
			return false
		}
	}
	return true
}

// varsOf returns the variables of a type, in the order in which they stand. Those below 0 are fixed, and are none.
func varsOf(t api.InferType) []int {
	if t.Op == api.InferVar && t.N >= 0 {
		return []int{t.N}
	}
	var l []int
	for _, k := range t.Kids {
		l = append(l, varsOf(k)...)
	}
	return l
}

// putIn returns a type with other variables.
func putIn(t api.InferType, of func(n int) api.InferType) api.InferType {
	if t.Op == api.InferVar {
		return of(t.N)
	}
	var kids []api.InferType
	for _, k := range t.Kids {
		kids = append(kids, putIn(k, of))
	}
	t.Kids = kids
	return t
}

// known is the type of a name, and which of its variables are general.
type known struct {
	name    string
	t       api.InferType
	general []int
}

// oracle types processes as the chapter's sentences say it.
type oracle struct {
	become
	next    int
	part    int // the number of the next part
	demands []api.InferDemand
	asked   func(number int) bool
	wrong   bool
	free    []api.InferType
	defs    [][]known
}

// typing returns what there is to say of a process, if it is asked to meet some demands; free names have the types of a list, or any if it is nil.
func typing(t api.Term, free []api.InferType, asked func(number int) bool) *oracle {
	o := &oracle{become: become{}, asked: asked}
	var around []known
	names, _ := term.Free(t)
	for i, n := range names {
		x := o.some()
		if free != nil {
			x = putIn(free[i], func(n int) api.InferType { return variable(-1 - n) })
		}
		o.free = append(o.free, x)
		around = append(around, known{n, x, nil})
	}
	o.process(t, around)
	return o
}

func always(int) bool { return true }

func (o *oracle) some() api.InferType {
	o.next++
	return variable(o.next - 1)
}

// demand takes down a demand, and meets it if that is asked.
func (o *oracle) demand(wish api.InferWish, part, n int, a, b api.InferType) {
	if o.asked(len(o.demands)) && !o.wrong {
		o.wrong = !o.equal(a, b)
	}
	o.demands = append(o.demands, api.InferDemand{Wish: wish, Part: part, N: n})
}

func (o *oracle) name(s string, around []known) api.InferType {
	for _, k := range slices.Backward(around) {
		if k.name != s {
			continue
		}
		anew := map[int]api.InferType{}
		for _, v := range k.general {
			anew[v] = o.some()
		}
		return putIn(o.full(k.t), func(n int) api.InferType {
			if x, ok := anew[n]; ok {
				return x
			}
			return variable(n)
		})
	}
	panic("no such name: " + s)
}

func (o *oracle) of(e api.TermExp, around []known) api.InferType {
	if e.Op == api.TermName {
		return o.name(e.Text, around)
	}
	return ty("int")
}

func (o *oracle) exp(e api.TermExp, around []known) {
	part := o.part
	o.part++
	switch e.Op {
	case api.TermInt, api.TermName:
	case api.TermSame:
		o.demand(api.InferAlike, part, 0, o.of(e.Kids[0], around), o.of(e.Kids[1], around))
	default:
		o.demand(api.InferOperand, part, 0, o.of(e.Kids[0], around), ty("int"))
		o.demand(api.InferOperand, part, 1, o.of(e.Kids[1], around), ty("int"))
	}
	for _, k := range e.Kids {
		o.exp(k, around)
	}
}

func (o *oracle) process(t api.Term, around []known) {
	part := o.part
	o.part++
	switch t.Op {
	case api.TermSend:
		c := ty("chan()")
		for _, e := range t.Args {
			c.Kids = append(c.Kids, o.of(e, around))
		}
		o.demand(api.InferSend, part, 0, o.name(t.Text, around), c)
	case api.TermIf:
		o.demand(api.InferTest, part, 0, o.of(t.Args[0], around), ty("int"))
	case api.TermGo:
		o.demand(api.InferGo, part, 0, o.name(t.Text, around), ty("place"))
	case api.TermWatch:
		o.demand(api.InferWatch, part, 0, o.name(t.Text, around), ty("place"))
	}
	for _, e := range t.Args {
		o.exp(e, around)
	}
	if t.Op == api.TermDef {
		o.def(t, around)
		return
	}
	for _, k := range t.Kids {
		o.process(k, around)
	}
}

func (o *oracle) def(t api.Term, around []known) {
	channels, places, _ := term.Defines(t)
	var own []known
	for _, c := range channels {
		own = append(own, known{c, o.some(), nil})
	}
	at := len(o.defs)
	o.defs = append(o.defs, nil)
	var bound []known
	for _, p := range places {
		bound = append(bound, known{p, ty("place"), nil})
	}
	o.clauses(t.Defs, slices.Concat(around, bound, own))
	if o.wrong {
		o.asked = func(int) bool { return false } // only the demands are of interest now
	}
	for i, k := range own {
		for _, v := range varsOf(o.full(k.t)) {
			if !slices.Contains(own[i].general, v) && !o.stays(v, around) && !o.joined(v, t.Defs, own) {
				own[i].general = append(own[i].general, v)
			}
		}
	}
	o.defs[at] = own
	o.process(t.Kids[0], slices.Concat(around, bound, own))
}

func (o *oracle) stays(v int, around []known) bool {
	return slices.ContainsFunc(around, func(k known) bool {
		return slices.Contains(varsOf(o.full(k.t)), v) && !slices.Contains(k.general, v)
	})
}

// joined reports whether a rule among some Defs has two channels in whose types a variable stands.
func (o *oracle) joined(v int, defs []api.TermClause, own []known) bool {
	for _, c := range defs {
		count := 0
		for _, j := range c.Joins {
			k := own[slices.IndexFunc(own, func(k known) bool { return k.name == j.Text })]
			if slices.Contains(varsOf(o.full(k.t)), v) {
				count++
			}
		}
		if count > 1 || o.joined(v, c.Defs, own) {
			return true
		}
	}
	return false
}

func (o *oracle) clauses(l []api.TermClause, around []known) {
	for _, c := range l {
		part := o.part
		o.part++
		in := slices.Clone(around)
		for i, j := range c.Joins {
			x := ty("chan()")
			for _, n := range j.Names {
				in = append(in, known{n, o.some(), nil})
				x.Kids = append(x.Kids, in[len(in)-1].t)
			}
			o.demand(api.InferJoin, part, i, o.name(j.Text, around), x)
		}
		o.clauses(c.Defs, in)
		o.process(c.Kids[0], in)
	}
}

// result returns the types as Infer returns them, whatever their size, how many nodes the largest one has, and how many variables there are.
func (o *oracle) result() (y api.InferTyping, largest, variables int) {
	numbers := map[[2]int]int{}
	number := func(t api.InferType, of int, general []int) (api.InferType, []int) {
		var all []int
		t = putIn(o.full(t), func(n int) api.InferType {
			key := [2]int{0, n}
			if slices.Contains(general, n) {
				key[0] = of
			}
			if _, ok := numbers[key]; !ok {
				numbers[key] = len(numbers)
				if key[0] > 0 {
					all = append(all, numbers[key])
				}
			}
			return variable(numbers[key])
		})
		largest = max(largest, nodes(t))
		return t, all
	}
	for _, x := range o.free {
		t, _ := number(x, 0, nil)
		y.Free = append(y.Free, t)
	}
	channel := 0
	for _, d := range o.defs {
		var l []api.InferScheme
		for _, k := range d {
			channel++
			t, all := number(k.t, channel, k.general)
			l = append(l, api.InferScheme{Type: t, All: all})
		}
		y.Defs = append(y.Defs, l)
	}
	return y, largest, len(numbers)
}

func nodes(t api.InferType) int {
	n := 1
	for _, k := range t.Kids {
		n += nodes(k)
	}
	return n
}
