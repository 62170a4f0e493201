package sample

import (
	"strconv"
	"strings"

	"cabotage/api"
)

// Vals writes values: integers as they are, the others as a letter and a number.
func Vals(l []api.SolVal) string {
	var out []string
	for _, v := range l {
		sign := "?" + strconv.Itoa(int(v.Kind)) + "."
		switch v.Kind {
		case api.SolInt:
			sign = ""
		case api.SolFree:
			sign = "f"
		case api.SolChan:
			sign = "c"
		case api.SolPlace:
			sign = "p"
		}
		out = append(out, sign+strconv.Itoa(v.N))
	}
	return strings.Join(out, " ")
}

// Show writes a solution: the Ins of its places, with a ! for a dead one; groups as definition@place[environment]; channels as group.index@place, with messages in brackets; what waits as node@place[environment].
func Show(s api.Sol) string {
	out := ""
	for i, x := range s.Spots {
		if i > 0 {
			out += " "
		}
		out += strconv.Itoa(x.In)
		if x.Dead {
			out += "!"
		}
	}
	for _, g := range s.Groups {
		out += "; " + strconv.Itoa(g.Def) + "@" + strconv.Itoa(g.At) + "[" + Vals(g.Env) + "]"
	}
	for _, c := range s.Chans {
		out += "; " + strconv.Itoa(c.Group) + "." + strconv.Itoa(c.Index) + "@" + strconv.Itoa(c.At)
		for _, m := range c.Queue {
			out += "(" + Vals(m.Vals) + ")"
		}
	}
	for _, x := range s.Waits {
		out += "; " + strconv.Itoa(x.Node) + "@" + strconv.Itoa(x.At) + "[" + Vals(x.Env) + "]"
	}
	return out
}

// Events writes events: each as its deed, At, and N; of SolTook the rule behind a dot; values in brackets where there can be any, or are any.
func Events(l []api.SolEvent) string {
	var out []string
	for _, x := range l {
		out = append(out, event(x))
	}
	return strings.Join(out, ", ")
}

func event(x api.SolEvent) string {
	deed := "?" + strconv.Itoa(int(x.Deed))
	switch x.Deed {
	case api.SolTook:
		deed = "took"
	case api.SolWent:
		deed = "went"
	case api.SolDied:
		deed = "died"
	case api.SolTold:
		deed = "told"
	case api.SolSaid:
		deed = "said"
	}
	s := deed + " " + strconv.Itoa(x.At)
	if x.Deed != api.SolDied || x.N != 0 {
		s += " " + strconv.Itoa(x.N)
	}
	if x.Deed == api.SolTook || x.M != 0 {
		s += "." + strconv.Itoa(x.M)
	}
	if x.Deed == api.SolTook || x.Deed == api.SolSaid || len(x.Vals) > 0 {
		s += "(" + Vals(x.Vals) + ")"
	}
	return s
}

// Step writes a step: as the process that waits, or as group.rule and the Picks; what has both with both.
func Step(x api.SolStep) string {
	rule := strconv.Itoa(x.Group) + "." + strconv.Itoa(x.Rule) + " " + ints(x.Picks)
	switch {
	case x.Wait == -1:
		return rule
	case x.Group == 0 && x.Rule == 0 && len(x.Picks) == 0:
		return strconv.Itoa(x.Wait)
	}
	return strconv.Itoa(x.Wait) + "?" + rule
}

// Steps writes steps.
func Steps(l []api.SolStep) string {
	var out []string
	for _, x := range l {
		out = append(out, Step(x))
	}
	return strings.Join(out, ", ")
}

func ints(l []int) string {
	var out []string
	for _, n := range l {
		out = append(out, strconv.Itoa(n))
	}
	return "[" + strings.Join(out, " ") + "]"
}
