// Package sample makes programs and solutions for the tests of the layers, changes and spoils them, and writes them down.
package sample

import (
	"cabotage/api"
	"cabotage/read"
	"cabotage/scope"
)

// Choose returns one of the numbers from 0 to below n. What is made depends on what it returns alone.
type Choose func(n int) int

// order returns the numbers from 0 to below n, in any order.
func (c Choose) order(n int) []int {
	l := make([]int, n)
	for i := range l {
		k := c(i + 1)
		l[i] = l[k]
		l[k] = i
	}
	return l
}

// Program returns the program of a source.
func Program(source string) (api.ScopeProg, api.Errno) {
	t, e := read.Parse(source)
	if e != api.OK {
		return api.ScopeProg{}, e
	}
	return scope.Bind(t)
}

// Made returns the program of what write returns, which is asked again if that is too large; one in two is shuffled.
func Made(choose Choose, write func() string) api.ScopeProg {
	for {
		p, e := Program(write())
		if e != api.OK {
			continue
		}
		if choose(2) == 0 {
			return shuffled(choose, p)
		}
		return p
	}
}

// shuffled returns a program that is formed, but for the most part not in order: nodes, definitions and rules have other numbers, and the channels of a definition have exchanged theirs, but not what is sent to them.
func shuffled(choose Choose, p api.ScopeProg) api.ScopeProg {
	node, def := choose.order(len(p.Nodes)), choose.order(len(p.Defs))
	out := api.ScopeProg{Free: append([]string(nil), p.Free...), Main: node[p.Main], Nodes: make([]api.ScopeNode, len(node)), Defs: make([]api.ScopeDef, len(def))}
	for at, n := range p.Nodes {
		n.Kids = renamed(n.Kids, node)
		if n.Op == api.TermDef {
			n.N = def[n.N]
		}
		out.Nodes[node[at]] = n
	}
	for at, d := range p.Defs {
		out.Defs[def[at]] = shuffledDef(choose, d, node)
	}
	return out
}

func shuffledDef(choose Choose, d api.ScopeDef, node []int) api.ScopeDef {
	channel, rule := choose.order(len(d.Chans)), choose.order(len(d.Rules))
	out := api.ScopeDef{Chans: make([]api.ScopeChan, len(channel)), Spots: append([]api.ScopeSpot(nil), d.Spots...), Rules: make([]api.ScopeRule, len(rule))}
	for i, c := range d.Chans {
		out.Chans[channel[i]] = c
	}
	for i, s := range d.Spots {
		out.Spots[i].Node = node[s.Node]
	}
	for i, r := range d.Rules {
		out.Rules[rule[i]] = api.ScopeRule{At: r.At, Joins: renamed(r.Joins, channel), Node: node[r.Node]}
	}
	return out
}

// renamed returns new numbers for those of a list.
func renamed(l, number []int) []int {
	var out []int
	for _, n := range l {
		out = append(out, number[n])
	}
	return out
}
