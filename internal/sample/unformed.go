package sample

import "cabotage/api"

// Circle returns an expression that holds itself.
func Circle() api.ScopeExp {
	kids := []api.ScopeExp{{}, {Op: api.TermInt, N: 1}}
	kids[0] = api.ScopeExp{Op: api.TermAdd, Kids: kids}
	return kids[0]
}

// Unformed returns programs that are not formed, each in another way: some small ones, and that of a source with a change, which has a free name and a message with a value, and begins with a TermDef with a channel.
func Unformed(source string) []api.ScopeProg {
	l := []api.ScopeProg{
		{},
		{Main: 1, Nodes: []api.ScopeNode{{Op: api.TermNil}}},
		{Nodes: []api.ScopeNode{{Op: api.TermSend}}},
		{Nodes: []api.ScopeNode{{Op: api.TermDef, Kids: []int{0}}}},
		{Nodes: []api.ScopeNode{{Op: api.TermPar, Kids: []int{0, 0}}}},
		{Nodes: []api.ScopeNode{{Op: 99}}},
		{Nodes: make([]api.ScopeNode, api.ScopeNodes+1)},
	}
	for _, change := range []func(p *api.ScopeProg){
		func(p *api.ScopeProg) { p.Free[0] = "in" },
		func(p *api.ScopeProg) { p.Main = -1 },
		func(p *api.ScopeProg) { p.Main = len(p.Nodes) },
		func(p *api.ScopeProg) { p.Nodes[0].N = len(p.Defs) },
		func(p *api.ScopeProg) { p.Nodes = append(p.Nodes, api.ScopeNode{Op: api.TermNil}) },
		func(p *api.ScopeProg) { p.Defs = append(p.Defs, api.ScopeDef{}) },
		func(p *api.ScopeProg) { p.Defs[0].Chans[0].Many = api.TermArgs + 1 },
		func(p *api.ScopeProg) { p.Defs[0].Rules[0].Joins[0] = len(p.Defs[0].Chans) },
		func(p *api.ScopeProg) { p.Defs[0].Rules[0].Node = len(p.Nodes) },
		func(p *api.ScopeProg) { *argument(p) = api.ScopeExp{Op: api.TermName, N: 99} },
		func(p *api.ScopeProg) { *argument(p) = Circle() },
	} {
		p, _ := Program(source)
		change(&p)
		l = append(l, p)
	}
	return l
}

// argument returns the first expression that stands in a node of a program.
func argument(p *api.ScopeProg) *api.ScopeExp {
	for i := range p.Nodes {
		if n := &p.Nodes[i]; len(n.Args) > 0 {
			return &n.Args[0]
		}
	}
	return nil
}
