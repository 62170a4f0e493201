package read_test

import (
	"regexp"
	"slices"
	"strings"
)

// rules is the grammar of the chapter without its [ ] and { }; a name of a rule begins with a capital letter.
const rules = `
Process  def Clauses in Process
Process  if Exp then Process else Process
Process  go Name ; Process
Process  watch Name ; Process
Process  Item
Process  Item | Process
Item     0
Item     stop
Item     Name ( )
Item     Name ( Exps )
Item     ( Process )
Exps     Exp
Exps     Exp , Exps
Clauses  Clause
Clauses  Clause and Clauses
Clause   Joins = Process
Clause   place Name { in Process }
Clause   place Name { Clauses in Process }
Joins    Join
Joins    Join & Joins
Join     Name ( )
Join     Name ( Names )
Names    Name
Names    Name , Names
Exp      Sum
Exp      Sum < Sum
Exp      Sum == Sum
Sum      Product
Sum      Sum + Product
Sum      Sum - Product
Product  Atom
Product  Product * Atom
Atom     Int
Atom     Name
Atom     ( Exp )
`

// keywords and signs are sorted as the chapter says it.
var (
	keywords = strings.Fields("and def else go if in place stop then watch")
	signs    = strings.Fields("( ) { } , ; | & = == < + - *")
	words    = slices.Concat([]string{"0", "a"}, keywords, signs)
	grammar  = read0(rules)
)

func read0(s string) map[string][][]string {
	g := map[string][][]string{}
	for _, line := range strings.Split(strings.TrimSpace(s), "\n") {
		l := strings.Fields(line)
		g[l[0]] = append(g[l[0]], l[1:])
	}
	return g
}

var (
	namePattern = regexp.MustCompile(`^[a-z]{1,8}$`)
	intPattern  = regexp.MustCompile(`^(0|~?[1-9][0-9]{0,9})$`)
)

func isName(s string) bool { return namePattern.MatchString(s) && !slices.Contains(keywords, s) }

func isInt(s string) bool { return intPattern.MatchString(s) }

func fits(symbol, token string) bool {
	switch symbol {
	case "Name":
		return isName(token)
	case "Int":
		return isInt(token)
	}
	return symbol == token
}

// item is a rule of which some is done, begun behind some tokens.
type item struct {
	rule    string
	number  int
	done    int
	written int
}

func (i item) right() []string { return grammar[i.rule][i.number] }

// rows are some tokens, with all the ways in which they can be derived so far (those of Earley): sets of items, one behind each token.
type rows [][]item

// from returns no tokens, which are to be derived from a symbol.
func from(symbol string) rows {
	var set []item
	for k := range grammar[symbol] {
		set = append(set, item{rule: symbol, number: k})
	}
	return rows{closed(nil, set)}
}

// with returns the tokens with one more.
func (r rows) with(token string) rows {
	var set []item
	for _, i := range r[len(r)-1] {
		if l := i.right(); i.done < len(l) && fits(l[i.done], token) {
			i.done++
			set = append(set, i)
		}
	}
	return append(slices.Clip(r), closed(r, set))
}

// closed returns a set with what follows from it.
func closed(r rows, set []item) []item {
	seen := map[item]bool{}
	var all []item
	add := func(i item) {
		if !seen[i] {
			seen[i] = true
			all = append(all, i)
		}
	}
	for _, i := range set {
		add(i)
	}
	for k := 0; k < len(all); k++ {
		i := all[k]
		if l := i.right(); i.done < len(l) {
			for n := range grammar[l[i.done]] {
				add(item{rule: l[i.done], number: n, written: len(r)})
			}
			continue
		}
		// No rule has nothing on its right, so what is done here was begun in an earlier set.
		for _, j := range r[i.written] {
			if l := j.right(); j.done < len(l) && l[j.done] == i.rule {
				j.done++
				add(j)
			}
		}
	}
	return all
}

// beginning reports whether something can go on with the tokens.
func (r rows) beginning() bool { return len(r[len(r)-1]) > 0 }

// derived reports whether the tokens are derived from the symbol with which they began.
func (r rows) derived(symbol string) bool {
	for _, i := range r[len(r)-1] {
		if i.rule == symbol && i.written == 0 && i.done == len(i.right()) {
			return true
		}
	}
	return false
}

// derives reports whether the tokens are derived from Process with some behind them.
func (r rows) derives(l []string) bool {
	for _, t := range l {
		if r = r.with(t); !r.beginning() {
			return false
		}
	}
	return r.derived("Process")
}

// rests returns all rows of the fewest tokens with which a beginning is derived from Process.
func rests(r rows) [][]string {
	type open struct {
		r    rows
		rest []string
	}
	level := []open{{r, nil}}
	for {
		var found [][]string
		var next []open
		for _, o := range level {
			if o.r.derived("Process") {
				found = append(found, o.rest)
			}
			for _, w := range words {
				if s := o.r.with(w); s.beginning() {
					next = append(next, open{s, append(slices.Clone(o.rest), w)})
				}
			}
		}
		if found != nil {
			return found
		}
		level = next
	}
}

// best returns the row that has 0 at the first place at which two of them differ.
func best(l [][]string) []string {
	out := l[0]
	for _, other := range l[1:] {
		for k := range out {
			if out[k] != other[k] {
				if other[k] == "0" {
					out = other
				} else if out[k] != "0" {
					panic("no 0: " + strings.Join(out, " ") + ", " + strings.Join(other, " "))
				}
				break
			}
		}
	}
	return out
}

// changes goes through some tokens with one of them changed, in their order, until one is derived.
func changes(l []string) []string {
	before := []rows{from("Process")} // the first tokens, as long as something can go on with them
	for i := 0; i < len(l) && before[i].with(l[i]).beginning(); i++ {
		before = append(before, before[i].with(l[i]))
	}
	if before[0].derives(l) {
		return l
	}
	for i, r := range before[:min(len(before), len(l))] {
		if r.derives(l[i+1:]) {
			return slices.Concat(l[:i], l[i+1:])
		}
	}
	for i, r := range before {
		for _, w := range words {
			if m := slices.Concat([]string{w}, l[i:]); r.derives(m) {
				return slices.Concat(l[:i], m)
			}
		}
	}
	for i, r := range before[:min(len(before), len(l))] {
		for _, w := range words {
			if m := slices.Concat([]string{w}, l[i+1:]); r.derives(m) {
				return slices.Concat(l[:i], m)
			}
		}
	}
	return nil
}

var (
	blankPattern = regexp.MustCompile(`^([ \t\n]|//[^\n]*)+`)
	piecePattern = regexp.MustCompile(`^([a-z]+|~?[0-9]+|==|[(){},;|&=<+*-])`)
)

// cutting is a source as texts of tokens, with the bytes at which they begin; bad is the byte at which there is none, or -1.
type cutting struct {
	texts []string
	at    []int
	bad   int
}

func cut(s string) cutting {
	c := cutting{bad: -1}
	at := 0
	for {
		at += len(blankPattern.FindString(s[at:]))
		if at == len(s) {
			return c
		}
		p := piecePattern.FindString(s[at:])
		if !isName(p) && !isInt(p) && !slices.Contains(keywords, p) && !slices.Contains(signs, p) {
			c.bad = at
			return c
		}
		c.texts = append(c.texts, p)
		c.at = append(c.at, at)
		at += len(p)
	}
}
