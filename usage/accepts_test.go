package usage_test

import (
	"math/rand"
	"slices"
	"testing"

	"cabotage/api"
	"cabotage/internal/sample"
	"cabotage/usage"
)

func accepts(t *testing.T, p api.ScopeProg, u []api.UsageDef) bool {
	t.Helper()
	is, e := usage.Accepts(p, u)
	if e != api.OK {
		t.Error(p, show(u), e)
	}
	return is
}

// P5.3: the example with its table, and with others: each thing that a table must say, broken alone, and greater counts.
func TestAcceptsOfExample(t *testing.T) {
	p := program(example)
	for _, s := range []string{found, "***/**/*,*,* */*/", "*11/*1/*,1,* 1/1/", "*1!/*1/*,1,* !/1/", "*!!/*1/*,1,* !/*/", "*!!/*1/*,1,* */*/", "*!!/**/*,1,* !/1/", "*!!/*1/*,*,* !/1/", "**!/*1/*,1,* !/1/"} {
		if !accepts(t, p, table(s)) {
			t.Error(s, "is not accepted")
		}
	}
	for _, s := range []string{
		"1!!/*1/*,1,* !/1/", "!!!/*1/*,1,* !/1/", "*0!/*1/*,1,* !/1/", "*!0/*1/*,1,* !/1/", "*!!/*1/*,1,* 0/1/", // Chans
		"*!!/11/*,1,* !/1/", "*!!/*0/*,1,* !/1/", "*!!/*1/*,1,* !/0/", "*!!/*1/*,1,* */1/", "***/*1/*,1,* !/1/", // Rules
		"*!!/*1/1,1,* !/1/", "*!!/*1/*,0,* !/1/", "*!!/*1/*,1,1 !/1/", "000/00/0,0,0 0/0/", // Args
	} {
		if accepts(t, p, table(s)) {
			t.Error(s, "is accepted")
		}
	}
}

// P5.3: what UsageOnce asks, and of which rules Args ask.
func TestAcceptsOfSources(t *testing.T) {
	for _, x := range []struct {
		source, table string
		is            bool
	}{
		{"0", "", true},
		{"def place p { in 0 } in 0", "//", true},
		// Once: just 1 is sent for sure, whatever is sent besides.
		{"def x() = 0 in x()", "!/1/", true},
		{"def x() = 0 in 0", "!/1/", false},
		{"def x() = 0 in 0", "1/1/", true},
		{"def x() = 0 in go q; x()", "!/1/", false},
		{"def x() = 0 in x() | x()", "!/1/", false},
		{"def x() = 0 in x() | x()", "*/*/", true},
		{"def x() = 0 in if 1 then x() else 0", "!/1/", false},
		{"def x() = 0 in if 1 then x() else x()", "!/1/", true},
		{"def x() = 0 and place p { in x() } in 0", "!/1/", true},
		{"def x() = 0 and place p { in x() } in x()", "!/1/", false},
		{"def x() = 0 in def w() = x() in w()", "!/1/ !/1/", false},
		{"def x() = 0 in x(1)", "!/1/", false},
		{"def m() = (def x() = 0 in x()) in m() | m()", "*/*/ !/1/", true},
		// A channel that can be UsageOnce, but gets another message by a rule.
		{"def x() = 0 in def w() = x() in x() | w()", "!/1/ !/1/", false},
		{"def x() = 0 in def w() = x() in x() | w()", "*/*/ !/1/", true},
		// Only a rule with a count above 0 asks something of Args, and what it asks depends on the table.
		{"def x(a) & y() = a() in x(1)", "!0/0/0,", true},
		{"def x(a) & y() = a() in x(1)", "!0/1/0,", false},
		{"def x(a) & y() = a() in x(1)", "!0/1/1,", true},
		{"def x(a) = y(a) and y(b) = 0 in 0", "01/11/0,0", true},
		{"def x(a) = y(a) and y(b) = 0 in 0", "01/11/0,1", false},
		{"def x(a) = y(a) and y(b) = 0 in 0", "0*/1*/1,1", true},
		{"def x(a) = y(a) and y(b) = 0 in 0", "0*/1*/0,1", false},
		{"def x(a) = y(a) and y(b) = 0 in 0", "0*/0*/0,1", true},
		// The least one of the channels of a rule.
		{"def x() & y() & z() = 0 in 0", "*1*/1/,,", true},
		{"def x() & y() & z() = 0 in 0", "**1/0/,,", false},
		{"def x() & y() & z() = 0 in 0", "***/1/,,", false},
		{"def x() & y() & z() = 0 in 0", "0**/0/,,", true},
		{"def x() & y() = 0 in x() | y()", "!!/1/,", true},
		// Rings: each asks for the other.
		{"def x() = y() and y() = x() in 0", "00/00/,", true},
		{"def x() = y() and y() = x() in 0", "11/11/,", true},
		{"def x() = y() and y() = x() in 0", "1*/1*/,", false},
		{"def x() = y() and y() = x() in x()", "1*/1*/,", false},
	} {
		if accepts(t, program(x.source), table(x.table)) != x.is {
			t.Error(x.source, x.table, "is not", x.is)
		}
	}
}

// P5.3: any tables, and such as have been made accepted, with one more change.
func TestAcceptsOfMade(t *testing.T) {
	yes, no := 0, 0
	programs(t, 600, func(seed int64, r *rand.Rand, p api.ScopeProg) {
		q := judgeOf(p)
		tables := [][]api.UsageDef{anyTable(r, p), q.raised(r, anyTable(r, p)), q.raised(r, anyTable(r, p)), tableOf(t, p)}
		for _, u := range tables[1:] {
			for range 4 {
				u = copied(u)
				l := entries(u)
				k := l[r.Intn(len(l))]
				*k.UsageKind = api.UsageKind(1 + r.Intn(4))
				if *k.UsageKind == api.UsageOnce && !k.chanKind {
					*k.UsageKind = api.UsageMost
				}
				tables = append(tables, u)
			}
		}
		for _, u := range tables {
			is := accepts(t, p, u)
			if is != q.accepts(u) {
				t.Fatal(seed, p, show(u), is)
			}
			if is {
				yes++
			} else {
				no++
			}
		}
	})
	if yes < 1000 || no < 1000 {
		t.Error("too few of a kind:", yes, no)
	}
}

// P5.3: what is refused. A table that is too long is refused as it is, and so is one for a program without definitions.
func TestAcceptsRefused(t *testing.T) {
	refused := func(p api.ScopeProg, u []api.UsageDef) {
		t.Helper()
		if is, e := usage.Accepts(p, u); is || e != api.ErrArg {
			t.Error(p, u, is, e)
		}
	}
	for _, p := range sample.Unformed(example) {
		refused(p, table(found))
		refused(p, nil)
	}
	for _, u := range misfits() {
		refused(program(example), u)
	}
	long := slices.Repeat([]api.UsageKind{api.UsageMany}, 1<<16)
	refused(program("def x(a) = 0 in 0"), []api.UsageDef{{Chans: kinds("*"), Rules: kinds("*"), Args: slices.Repeat([][]api.UsageKind{long}, 1<<16)}})
	refused(program("0"), table("//"))
	refused(program("def x() = 0 in 0"), nil)
}

// P5.4: of all tables of small programs those that are accepted have no count less than the table, and no other channel that is UsageOnce.
func TestLeast(t *testing.T) {
	for _, s := range []string{
		"def x() = 0 in x()", "def x() = 0 in x() | x()", "def x() = x() in go q; x()", "def x(a) = a() in x(out)", "def x(a) & y() = a() in x(1) | y()", "def x(a) = y(a) and y(b) = b() in x(1)", "def x(a) = y(a) and y(b) = x(b) in y(1)",
		"def x() = 0 and y() & z() = x() in y() | z() | y()", "def x() = y() and y() = x() in if 1 then x() else 0", "def k(a) = a() in def r() = k(r) in r()", "def k(a) = 0 in def r() = k(r) in r()", "def x() = 0 and place p { y() = x() in y() } in 0",
	} {
		p := program(s)
		least, accepted := tableOf(t, p), 0
		allTables(blank(p), func(u []api.UsageDef) {
			if accepts(t, p, u) {
				accepted++
				if !notBelow(least, u) {
					t.Error(s, show(u), "is accepted, but not", show(least))
				}
			}
		})
		if accepted == 0 {
			t.Error(s, "nothing is accepted")
		}
	}
}

// allTables calls f with all that a table can become.
func allTables(u []api.UsageDef, f func(u []api.UsageDef)) {
	l := entries(u)
	var from func(i int)
	from = func(i int) {
		if i == len(l) {
			f(u)
			return
		}
		for k := api.UsageNever; k <= api.UsageMany; k++ {
			if k != api.UsageOnce || l[i].chanKind {
				*l[i].UsageKind = k
				from(i + 1)
			}
		}
	}
	from(0)
}

// P5.4: of larger programs tables with any count less are refused.
func TestLeastOfMade(t *testing.T) {
	less := map[api.UsageKind]api.UsageKind{api.UsageOnce: api.UsageNever, api.UsageMost: api.UsageNever, api.UsageMany: api.UsageMost}
	programs(t, 800, func(seed int64, r *rand.Rand, p api.ScopeProg) {
		least := tableOf(t, p)
		tables := [][]api.UsageDef{judgeOf(p).raised(r, anyTable(r, p)), anyTable(r, p)}
		for i := range entries(least) {
			u := copied(least)
			if k := entries(u)[i].UsageKind; *k != api.UsageNever {
				*k = less[*k]
				tables = append(tables, u)
			}
		}
		for _, u := range tables {
			if accepts(t, p, u) && !notBelow(least, u) {
				t.Error(seed, p, show(u), "is accepted, but not", show(least))
			}
		}
	})
}
