package term_test

import (
	"slices"
	"testing"

	"cabotage/term"
)

var words = []string{"and", "def", "else", "go", "if", "in", "place", "stop", "then", "watch"}

// P1.1
func TestName(t *testing.T) {
	for _, s := range []string{"a", "z", "m", "az", "abcdefgh", "zzzzzzzz", "let", "or", "an", "ands", "goo", "g", "i", "stops", "places", "watcher", "thens", "elsewher", "not", "nil", "do", "is"} {
		if !term.Name(s) {
			t.Errorf("%q is a name", s)
		}
	}
	for _, s := range []string{"", "abcdefghi", "zzzzzzzzz", "A", "aB", "Ab", "a1", "1a", "1", "a_b", "_", " ", "a ", " a", "`", "{", "a`", "z{", "@", "a-b", "é", "aé", "\x00", "a\x00", "\xff", "ä", "ａ"} {
		if term.Name(s) {
			t.Errorf("%q is no name", s)
		}
	}
	for _, s := range words {
		if term.Name(s) {
			t.Errorf("%q is a keyword", s)
		}
		if !term.Name(s + "x") {
			t.Errorf("%q is a name", s+"x")
		}
	}
}

// upTo returns all strings of letters up to a length, keywords too.
func upTo(long int) []string {
	all, last := []string{}, []string{""}
	for range long {
		var more []string
		for _, s := range last {
			for c := 'a'; c <= 'z'; c++ {
				more = append(more, s+string(c))
			}
		}
		all = append(all, more...)
		last = more
	}
	return all
}

// P1.1
func TestFresh(t *testing.T) {
	two := upTo(2)
	before := func(s string) []string { return two[:slices.Index(two, s)] }
	for i, x := range []struct {
		l    []string
		want string
	}{
		{nil, "a"}, {[]string{}, "a"}, {[]string{"a", "c"}, "b"}, {[]string{"c", "a"}, "b"}, {[]string{"b"}, "a"},
		{[]string{"a", "a", "b"}, "c"}, {[]string{"", "A", "1", "go"}, "a"}, {[]string{"b", "aa", "z"}, "a"},
		{before("z"), "z"}, {upTo(1), "aa"}, {before("ab"), "ab"}, {before("ba"), "ba"}, {before("zz"), "zz"},
		{before("go"), "gp"}, {before("if"), "ig"}, {before("in"), "io"}, {two, "aaa"}, {append(upTo(2), "aaa", "aac"), "aab"},
	} {
		if s := term.Fresh(x.l); s != x.want {
			t.Errorf("%d: %q, not %q", i, s, x.want)
		}
	}
	three := upTo(3)
	if s := term.Fresh(three[:slices.Index(three, "and")]); s != "ane" {
		t.Errorf("%q in place of a keyword", s)
	}
	l := []string{"b", "a"}
	if s := term.Fresh(l); s != "c" || l[0] != "b" || l[1] != "a" {
		t.Error("the list has changed", s, l)
	}
}
