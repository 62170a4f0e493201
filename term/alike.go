package term

import (
	"slices"

	"cabotage/api"
)

func equalTerms(a, b api.Term) bool {
	return a.Op == b.Op && a.Text == b.Text && slices.EqualFunc(a.Args, b.Args, equalExps) &&
		slices.EqualFunc(a.Defs, b.Defs, equalClauses) && slices.EqualFunc(a.Kids, b.Kids, equalTerms)
}

func equalExps(a, b api.TermExp) bool {
	return a.Op == b.Op && a.N == b.N && a.Text == b.Text && slices.EqualFunc(a.Kids, b.Kids, equalExps)
}

func equalClauses(a, b api.TermClause) bool {
	return a.Form == b.Form && a.Text == b.Text && slices.EqualFunc(a.Joins, b.Joins, equalMsgs) &&
		slices.EqualFunc(a.Defs, b.Defs, equalClauses) && slices.EqualFunc(a.Kids, b.Kids, equalTerms)
}

func equalMsgs(a, b api.TermMsg) bool { return a.Text == b.Text && slices.Equal(a.Names, b.Names) }
