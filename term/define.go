package term

import "cabotage/api"

// groups returns the definitions of a TermDef as lists of those that are beside each other: its own ones, then those of its first place, of its second one, and so on.
func groups(defs []api.TermClause) [][]api.TermClause {
	l := [][]api.TermClause{defs}
	for _, d := range defs {
		if d.Form == api.TermPlace {
			l = append(l, groups(d.Defs)...)
		}
	}
	return l
}

// placesOf returns the places of a TermDef.
func placesOf(defs []api.TermClause) []string {
	var l []string
	for _, d := range defs {
		if d.Form == api.TermPlace {
			l = append(l, d.Text)
			l = append(l, placesOf(d.Defs)...)
		}
	}
	return l
}

// channelsOf returns the channels of a TermDef.
func channelsOf(defs []api.TermClause) []string {
	var l []string
	seen := map[string]bool{}
	for _, g := range groups(defs) {
		for _, d := range g {
			for _, j := range d.Joins {
				if !seen[j.Text] {
					seen[j.Text] = true
					l = append(l, j.Text)
				}
			}
		}
	}
	return l
}

// use is how a channel stands in a Join: the group of its rule, and how many values it brings.
type use struct{ group, many int }

// agree reports whether the definitions of a TermDef say the same of each channel, and name nothing twice.
func agree(defs []api.TermClause) bool {
	uses := map[string]use{}
	for i, g := range groups(defs) {
		for _, d := range g {
			for _, j := range d.Joins {
				u := use{i, len(j.Names)}
				if v, ok := uses[j.Text]; ok && v != u {
					return false
				}
				uses[j.Text] = u
			}
		}
	}
	seen := map[string]bool{}
	for _, p := range placesOf(defs) {
		if _, ok := uses[p]; ok || seen[p] {
			return false
		}
		seen[p] = true
	}
	return true
}
