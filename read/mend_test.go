package read_test

import (
	"math/rand"
	"slices"
	"strings"
	"testing"

	"cabotage/api"
	"cabotage/read"
)

// P2.3
func TestMend(t *testing.T) {
	for s, want := range map[string]string{
		"x(1": "x ( 1 )", "x 1)": "x ( 1 )", "go a 0": "go a ; 0", "0 0": "0",
		// The tokens themselves, with their texts.
		"x()": "x ( )", "abc(~12)|stop": "abc ( ~12 ) | stop", "x(1000000001)": "x ( 1000000001 )",
		// Without one: the first one that can be left out.
		"x())": "x ( )", "(x()": "x ( )", "| 0": "0", "0 stop": "stop", "stop 0": "0", "x() | | y()": "x ( ) | y ( )", "in x()": "x ( )", "x(1 2)": "x ( 2 )", "x(a b)": "x ( b )", "x((1 + 2)": "x ( 1 + 2 )", "def x() = 0 in in 0": "def x ( ) = 0 in 0", "def x(a,) = 0 in 0": "def x ( a ) = 0 in 0", "x(y()": "x ( y )", "def def x() = 0 in 0": "def x ( ) = 0 in 0",
		// With one more: the first place, then the first token.
		"": "0", "// 0": "0", "0 |": "0", "def x() = 0 0": "def x ( ) = 0 in 0", "if 1 then 0 0": "if 1 then 0 else 0", "go; 0": "go a ; 0", "x(1 < 2 < 3)": "x ( 1 , 2 < 3 )", "def place p { 0 } in 0": "def place p { in 0 } in 0", "def x() = 0 in": "def x ( ) = 0 in 0", "def x() 0 in 0": "def x ( ) = 0 in 0", "if then 0 else 0": "if 0 then 0 else 0", "def x() = in 0": "def x ( ) = 0 in 0", "x(": "x ( )", "x )": "x ( )", "def place { in 0 } in 0": "def place a { in 0 } in 0", "def () = 0 in 0": "def a ( ) = 0 in 0", "if 1 0 else 0": "if 1 then 0 else 0", "(0": "0", "0)": "0", "go a;": "go a ; 0", "(0 | 0": "0 | 0", "x() y()": "x ( ) | y ( )",
		// With another one: the first place, then the first token.
		"x": "0", "1": "0", ")": "0", "go 5; 0": "go a ; 0", "def 1() = 0 in 0": "def a ( ) = 0 in 0", "0 & 0": "0 | 0", "x(1;2)": "x ( 1 , 2 )", "x(1 = 2)": "x ( 1 , 2 )", "def x() == 0 in 0": "def x ( ) = 0 in 0", "x{1)": "x ( 1 )", "if 1 then 0 in 0": "if 1 then 0 else 0", "watch p, stop": "watch p ; stop", "x(1 +": "x ( 1 )", "go in; 0": "go a ; 0", "stop ; stop": "stop | stop",
		// None.
		"; ; ;": "", "a b": "", "1 1": "", "x x x": "", "def def": "", ") (": "", "def x = 0 in 0": "", "if 1": "",
	} {
		l, e := read.Mend(s)
		if want == "" {
			if len(l) > 0 || e != api.ErrOpen {
				t.Errorf("%q: %q %d", s, l, e)
			}
		} else if strings.Join(l, " ") != want || e != api.OK {
			t.Errorf("%q: %q %d, not %q", s, l, e, want)
		}
	}
}

// P2.3: the order of the errors.
func TestMendRefused(t *testing.T) {
	forty := "0" + strings.Repeat(" | 0", 19) + " |"
	for s, want := range map[string]api.Errno{
		forty: api.OK, forty[:len(forty)-2]: api.OK, forty + " 0": api.ErrLong, forty + " ;": api.ErrLong, strings.Repeat(";", 40): api.ErrOpen, strings.Repeat(";", 41): api.ErrLong, "0 $": api.ErrText, strings.Repeat(";", 41) + "$": api.ErrText, "abcdefghi": api.ErrText,
		strings.Repeat(" ", 6001): api.ErrLong, "$" + strings.Repeat(" ", 6000): api.ErrLong, "0" + strings.Repeat(" ", 5999): api.OK, strings.Repeat("go a;", 13) + "0": api.OK, "0" + strings.Repeat(" 0", 39): api.ErrOpen,
	} {
		l, e := read.Mend(s)
		if e != want || (e == api.OK) != (len(l) > 0) {
			t.Errorf("%.60q: %q %d, not %d", s, l, e, want)
		}
	}
	if l, e := read.Mend(forty); strings.Join(l, " ") != strings.TrimSuffix(forty, " |") || e != api.OK {
		t.Error(l, e)
	}
}

// P2.3: the first of all that the chapter lists, by the grammar.
func TestMendMade(t *testing.T) {
	found, none := 0, 0
	try := func(l []string) {
		want := changes(l)
		got, e := read.Mend(strings.Join(l, " "))
		if !slices.Equal(got, want) || (want == nil) != (e == api.ErrOpen) || want != nil && e != api.OK {
			t.Errorf("%q: %q %d, not %q", l, got, e, want)
		}
		if want == nil {
			none++
		} else {
			found++
		}
	}
	formedOnes(t, 1500, func(m *rand.Rand, u api.Term) {
		if l := spoilt(m, u); len(l) < 25 {
			try(l)
		}
	})
	m := rand.New(rand.NewSource(5))
	for range 500 {
		var l []string
		for range m.Intn(6) {
			l = append(l, words[m.Intn(len(words))])
		}
		try(l)
	}
	if found < 300 || none < 100 {
		t.Error(found, none)
	}
}
