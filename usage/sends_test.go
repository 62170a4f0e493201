package usage_test

import (
	"math"
	"math/rand"
	"testing"

	"cabotage/api"
	"cabotage/internal/sample"
	"cabotage/usage"
)

// sends checks what Sends and Sure return of a node and a place.
func sends(t *testing.T, p api.ScopeProg, u []api.UsageDef, node, place int, sign byte, sure int) {
	t.Helper()
	k, e := usage.Sends(p, u, node, place)
	n, f := usage.Sure(p, node, place)
	if e != api.OK || f != api.OK || k != kind(sign) || n != sure {
		t.Errorf("the node %d to the place %d: %s, %d; not %c, %d (%d, %d)", node, place, showKinds([]api.UsageKind{k}), n, sign, sure, e, f)
	}
}

// P5.1: the chapter's example. Nodes: 0 is the TermDef, 1 the body of the rule of x, 4 that of y and z, 5 its Kid, 9 the TermDef of w, 10 the body of its rule. Places: out, x, y, z, then a, or b and c, or w.
func TestSendsOfExample(t *testing.T) {
	p, u := program(example), table(found)
	for _, x := range []struct {
		node, place int
		sign        byte
		sure        int
	}{
		{0, 0, '*', 0}, {5, 1, '*', 0}, {5, 2, '1', 1}, {5, 3, '1', 1}, {5, 0, '*', 0}, {6, 2, '1', 1}, {6, 0, '1', 0}, {8, 1, '*', 0}, {8, 3, '1', 1}, {8, 2, '0', 0},
		{1, 4, '*', 0}, {2, 4, '1', 0}, {4, 4, '1', 0}, {4, 5, '*', 0}, {4, 0, '0', 0}, {9, 1, '1', 0}, {9, 0, '*', 0}, {10, 1, '1', 1}, {11, 4, '1', 1},
	} {
		sends(t, p, u, x.node, x.place, x.sign, x.sure)
	}
}

// P5.1: each sentence of the section, by programs whose nodes are in order: Main is the node 0, in front of the bodies of rules, what is in places, and Kids.
func TestSendsOfSources(t *testing.T) {
	for _, x := range []struct {
		source, table string
		node, place   int
		sign          byte
		sure          int
	}{
		// A TermSend whose N denotes no channel.
		{"out()", "", 0, 0, '1', 0},
		{"out(1, 2, 3)", "", 0, 0, '1', 0},
		{"out(q)", "", 0, 0, '1', 0},
		{"out(q)", "", 0, 1, '*', 0},
		{"out(1, q)", "", 0, 1, '*', 0},
		{"out(out)", "", 0, 0, '*', 0},
		{"def place p { in 0 } in p(q)", "//", 2, 1, '1', 0},
		{"def place p { in 0 } in p(q)", "//", 2, 0, '*', 0},
		{"def x(a) = a(q) in 0", "0/0/0", 1, 2, '1', 0},
		{"def x(a) = a(q) in 0", "0/0/0", 1, 0, '*', 0},
		// Names that stand deeper, and integers with the number of the place.
		{"out(q + 1, 1 == q, (q - q) * 2)", "", 0, 1, '0', 0},
		{"out(1, 1)", "", 0, 0, '1', 0},
		{"out(0) | q(1)", "", 1, 0, '1', 0},
		{"out(0) | q(1)", "", 2, 0, '0', 0},
		// A TermSend whose N denotes a channel.
		{"def x(a) = 0 in x(q)", "0/0/0", 2, 1, '1', 1},
		{"def x(a) = 0 in x(q)", "0/0/0", 2, 0, '0', 0},
		{"def x(a) = 0 in x(q)", "0/0/1", 2, 0, '1', 0},
		{"def x(a) = 0 in x(q)", "0/0/*", 2, 0, '*', 0},
		{"def x(a) = 0 in x(q + 1)", "0/0/*", 2, 0, '0', 0},
		{"def x(a) = 0 in x(x)", "*/*/0", 2, 0, '1', 1},
		{"def x(a) = 0 in x(x)", "*/*/1", 2, 0, '*', 1},
		{"def x(a, b) = 0 in x(q, q)", "0/0/10", 2, 0, '1', 0},
		{"def x(a, b) = 0 in x(q, q)", "0/0/01", 2, 0, '1', 0},
		{"def x(a, b) = 0 in x(q, q)", "0/0/11", 2, 0, '*', 0},
		{"def x(a, b) = 0 in x(q, 1)", "0/0/0*", 2, 0, '0', 0},
		{"def x(a) & y(b) = 0 in y(q)", "00/0/*,1", 2, 0, '1', 0},
		{"def x(a) = 0 in def y(b) = 0 in x(q)", "0/0/0 0/0/1", 4, 0, '0', 0},
		// Another number of Args than the channel takes: lost, with all that it brings.
		{"def x(a) = 0 in x(q, x)", "*/*/*", 2, 0, '0', 0},
		{"def x(a) = 0 in x(q, x)", "*/*/*", 2, 1, '0', 0},
		{"def x(a) = 0 in x()", "*/*/*", 2, 0, '0', 0},
		{"def x() = 0 in x(q)", "*/*/", 2, 0, '0', 0},
		// TermNil, TermStop, TermPar, TermIf, TermGo, TermWatch.
		{"out() | 0", "", 2, 0, '0', 0},
		{"out() | stop", "", 2, 0, '0', 0},
		{"out() | q()", "", 0, 0, '1', 0},
		{"out() | q() | out()", "", 0, 0, '*', 0},
		{"def x() = 0 in x() | x() | x()", "0/0/", 2, 0, '*', 3},
		{"def x() = 0 in if x then x() else x()", "0/0/", 2, 0, '1', 1},
		{"def x() = 0 in if x then x() else 0", "0/0/", 2, 0, '1', 0},
		{"def x() = 0 in if x then 0 else x() | x()", "0/0/", 2, 0, '*', 0},
		{"def x() = 0 in if 1 then x() | x() | x() else x() | x()", "0/0/", 2, 0, '*', 2},
		{"if q then 0 else 0", "", 0, 0, '0', 0},
		{"def x() = 0 in go q; x()", "0/0/", 2, 1, '1', 0},
		{"def x() = 0 in go q; x()", "0/0/", 3, 1, '1', 1},
		{"def x() = 0 in watch q; x()", "0/0/", 2, 1, '1', 0},
		{"def x() = 0 in watch q; x()", "0/0/", 2, 0, '0', 0},
		{"go q; q()", "", 0, 0, '1', 0},
		// The inner sends of a TermDef.
		{"def x() = q() in 0", "*/0/", 0, 0, '0', 0},
		{"def x() = q() in 0", "0/1/", 0, 0, '1', 0},
		{"def x() = q() in 0", "!/*/", 0, 0, '*', 0},
		{"def x() = q() | q() in 0", "0/1/", 0, 0, '*', 0},
		{"def x() = q() and y() = q() in 0", "00/10/,", 0, 0, '1', 0},
		{"def x() = q() and y() = q() in 0", "00/11/,", 0, 0, '*', 0},
		{"def x() = q() in q()", "0/1/", 0, 0, '*', 0},
		{"def place p { in q() } in 0", "//", 0, 0, '1', 0},
		{"def place p { in q() } in q()", "//", 0, 0, '*', 0},
		{"def place p { place r { in q() } in 0 } in 0", "//", 0, 0, '1', 0},
		{"def place p { x() = q() in 0 } in 0", "0/1/", 0, 0, '1', 0},
		{"def x() = (def y() = q() in 0) in 0", "0/1/ 0/0/", 0, 0, '0', 0},
		{"def x() = (def y() = q() in 0) in 0", "0/1/ 0/1/", 0, 0, '1', 0},
		{"def x() = (def y() = q() in 0) in 0", "0/*/ 0/1/", 0, 0, '*', 0},
		{"def x() = (def y() = q() in 0) in 0", "0/0/ 0/*/", 0, 0, '0', 0},
		// What a TermDef sends for sure: its Kid and what is in its places, but not its rules.
		{"def x() = 0 in def y() = x() in y()", "0/0/ 0/1/", 2, 0, '1', 0},
		{"def x() = 0 in def y() = 0 in x()", "0/0/ 0/1/", 2, 0, '1', 1},
		{"def x() = 0 in def place p { in x() } in 0", "0/0/ //", 2, 0, '1', 1},
		{"def x() = 0 in def place p { place r { in x() } in 0 } in x()", "0/0/ //", 2, 0, '*', 2},
		{"def x() = 0 in def place p { in go p; x() } in 0", "0/0/ //", 2, 0, '1', 0},
		// Places with the same number, of which one is a channel that takes no values, and one the name of what a message brings.
		{"(def x() = 0 and z() = 0 in z(1)) | def y(a) = a(1) in 0", "00/00/, 0/0/0", 4, 1, '0', 0},
		{"(def x() = 0 and z() = 0 in z(1)) | def y(a) = a(1) in 0", "00/00/, 0/0/0", 6, 1, '1', 0},
		{"(def y(a) = a() in 0) | def x() = 0 and z() = 0 in z()", "0/0/0 00/00/,", 2, 1, '1', 0},
		{"(def y(a) = a() in 0) | def x() = 0 and z() = 0 in z()", "0/0/0 00/00/,", 7, 1, '1', 1},
		{"(def place p { in 0 } in p()) | def x() = 0 in x()", "// 0/0/", 3, 0, '1', 0},
		{"(def place p { in 0 } in p()) | def x() = 0 in x()", "// 0/0/", 6, 0, '1', 1},
	} {
		t.Run(x.source+" by "+x.table, func(t *testing.T) { sends(t, program(x.source), table(x.table), x.node, x.place, x.sign, x.sure) })
	}
}

// P5.1: all nodes, all places and any tables, by the way from each TermSend upwards.
func TestSendsOfMade(t *testing.T) {
	seen := map[[2]int]int{}
	programs(t, 400, func(seed int64, r *rand.Rand, p api.ScopeProg) {
		q, u := judgeOf(p), anyTable(r, p)
		for node := range p.Nodes {
			size := q.size(node)
			for place := range size {
				k, n := q.sends(u, node, place), q.sure(node, place)
				sends(t, p, u, node, place, "01*"[k], n)
				seen[[2]int{k, min(n, 2)}]++
			}
			if k, e := usage.Sends(p, u, node, size); k != 0 || e != api.ErrArg {
				t.Error(seed, node, size, k, e)
			}
			if n, e := usage.Sure(p, node, size); n != 0 || e != api.ErrArg {
				t.Error(seed, node, size, n, e)
			}
		}
	})
	if seen[[2]int{0, 0}] < 100 || seen[[2]int{1, 0}] < 100 || seen[[2]int{2, 0}] < 100 || seen[[2]int{1, 1}] < 100 || seen[[2]int{2, 1}] < 100 || seen[[2]int{2, 2}] < 50 {
		t.Error("too few of a kind:", seen)
	}
}

// P5.1: what is refused, with zero values.
func TestSendsRefused(t *testing.T) {
	refused := func(p api.ScopeProg, u []api.UsageDef, node, place int) {
		t.Helper()
		if k, e := usage.Sends(p, u, node, place); k != 0 || e != api.ErrArg {
			t.Error(p, u, node, place, k, e)
		}
	}
	unsure := func(p api.ScopeProg, node, place int) {
		t.Helper()
		if n, e := usage.Sure(p, node, place); n != 0 || e != api.ErrArg {
			t.Error(p, node, place, n, e)
		}
	}
	for _, p := range sample.Unformed(example) {
		refused(p, table(found), 0, 0)
		refused(p, nil, 0, 0)
		unsure(p, 0, 0)
	}
	p, u := program(example), table(found)
	for _, u := range misfits() {
		refused(p, u, 0, 0)
	}
	// The environment of Main has 1 place, that of its Kid 4, that of the node 2 5, and that of the node 4 6.
	for _, x := range [][2]int{{-1, 0}, {12, 0}, {0, 1}, {0, -1}, {5, 4}, {2, 5}, {4, 6}, {math.MaxInt, 0}, {math.MinInt, 0}, {0, math.MaxInt}, {0, math.MinInt}} {
		refused(p, u, x[0], x[1])
		unsure(p, x[0], x[1])
	}
	refused(program("0"), nil, 0, 0)
	unsure(program("stop"), 0, 0)
}
