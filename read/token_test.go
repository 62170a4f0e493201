package read_test

import (
	"math/rand"
	"slices"
	"strings"
	"testing"

	"cabotage/api"
	"cabotage/read"
)

// texts returns the texts of tokens, with a blank between two of them.
func texts(l []api.ReadToken) string {
	var out []string
	for _, t := range l {
		out = append(out, t.Text)
	}
	return strings.Join(out, " ")
}

// P2.1
func TestTokens(t *testing.T) {
	for _, x := range []struct{ s, want, kinds string }{
		{"a==b=c<~5//d", "a == b = c < ~5", "nsnsnsi"},
		{"", "", ""}, {" \t\n ", "", ""}, {"//", "", ""}, {"// a", "", ""}, {"//a\n//b\n", "", ""}, {"a//b\nc//", "a c", "nn"}, {"//\x00\xff$\n0", "0", "i"}, {"a// // b\n// c", "a", "n"},
		{"and def else go if in place stop then watch", "and def else go if in place stop then watch", "wwwwwwwwww"},
		{"ands de elsee g iff i placed stops the watches inplace", "ands de elsee g iff i placed stops the watches inplace", "nnnnnnnnnnn"},
		{"(){},;|&===<+-*", "( ) { } , ; | & == = < + - *", "ssssssssssssss"}, {"====", "== ==", "ss"}, {"=====", "== == =", "sss"}, {"= ==", "= ==", "ss"}, {"= =", "= =", "ss"},
		{"0", "0", "i"}, {"1234567890 9999999999 ~1234567890", "1234567890 9999999999 ~1234567890", "iii"}, {"a1b", "a 1 b", "nin"}, {"1-2", "1 - 2", "isi"}, {"1~2", "1 ~2", "ii"}, {"a~5b", "a ~5 b", "nin"}, {"-~1", "- ~1", "si"}, {"~10 10 0", "~10 10 0", "iii"},
		{"abcdefgh", "abcdefgh", "n"}, {"in0", "in 0", "wi"}, {"x(a)", "x ( a )", "nsns"}, {"zaz", "zaz", "n"}, {"a\tb\nc d", "a b c d", "nnnn"},
	} {
		l, e := read.Tokens(x.s)
		kinds := ""
		for _, k := range l {
			kinds += map[api.ReadKind]string{api.ReadName: "n", api.ReadWord: "w", api.ReadInt: "i", api.ReadSign: "s"}[k.Kind]
		}
		if texts(l) != x.want || kinds != x.kinds || e != api.OK {
			t.Errorf("%q: %v %d", x.s, l, e)
		}
	}
}

// P2.1: bytes and lines.
func TestTokensAt(t *testing.T) {
	l, e := read.Tokens("\n a // b\n\n\t// c\n==1 and\n")
	want := []api.ReadToken{{Kind: api.ReadName, Text: "a", At: 2, Line: 2}, {Kind: api.ReadSign, Text: "==", At: 16, Line: 5}, {Kind: api.ReadInt, Text: "1", At: 18, Line: 5}, {Kind: api.ReadWord, Text: "and", At: 20, Line: 5}}
	if e != api.OK || !slices.Equal(l, want) {
		t.Error(l, e)
	}
	l[0].Text = "spoilt"
	if m, _ := read.Tokens("\n a // b\n\n\t// c\n==1 and\n"); !slices.Equal(m, want) {
		t.Error(m)
	}
}

// notTokens are sources with a byte at which there is neither a token nor a blank.
func notTokens() []string {
	return []string{"07", "00", "01", "~0", "~", "~ 1", "~~1", "~01", "~a", "12345678901", "~12345678901", "00000000000", "abcdefghi", "stopstops", "placeplace", "a $", "a / b", "/", "a/", "/ /", "X", "aX", "a\r", "\v", "\x00", "\xff", "é", "==!", "[", "a > b", "1.5", "'", "x_y", "0x1 07", "a:b", "`", "@", "a{b}c[", "\u00a0"}
}

// P2.1: what is no token, and the order of the errors.
func TestTokensRefused(t *testing.T) {
	for _, s := range notTokens() {
		if l, e := read.Tokens(s); len(l) > 0 || e != api.ErrText {
			t.Errorf("%q: %v %d", s, l, e)
		}
	}
	blank := strings.Repeat("\n", 5999)
	for s, want := range map[string]api.Errno{blank: api.OK, blank + "a": api.OK, blank + "$": api.ErrText, blank + "//": api.ErrLong, blank + " $": api.ErrLong, strings.Repeat("$", 6001): api.ErrLong, "//" + blank[2:] + "a": api.OK} {
		l, e := read.Tokens(s)
		if e != want || e != api.OK && len(l) > 0 {
			t.Errorf("%d bytes: %v %d, not %d", len(s), l, e, want)
		}
	}
	if l, e := read.Tokens(blank + "a"); e != api.OK || !slices.Equal(l, []api.ReadToken{{Kind: api.ReadName, Text: "a", At: 5999, Line: 6000}}) {
		t.Error(l, e)
	}
}

// random returns bytes of which many are tokens.
func random(m *rand.Rand) string {
	var b strings.Builder
	for range m.Intn(12) {
		switch m.Intn(8) {
		case 0:
			b.WriteByte(byte(m.Intn(256)))
		case 1:
			b.WriteString([]string{"~", "/", "//", "0", "00", "9", "12345", "1000000000", "abcd", "$"}[m.Intn(10)])
		case 2, 3:
			b.WriteString([]string{" ", "\n", "\t", "//a\n"}[m.Intn(4)])
		default:
			b.WriteString(words[m.Intn(len(words))])
		}
	}
	return b.String()
}

// P2.1: the same as patterns say.
func TestTokensMade(t *testing.T) {
	m := rand.New(rand.NewSource(3))
	refused := 0
	for range 20000 {
		s := random(m)
		c := cut(s)
		l, e := read.Tokens(s)
		if c.bad >= 0 {
			refused++
			if len(l) > 0 || e != api.ErrText {
				t.Fatalf("%q: %v %d", s, l, e)
			}
			continue
		}
		if e != api.OK || texts(l) != strings.Join(c.texts, " ") {
			t.Fatalf("%q: %v %d, not %q", s, l, e, c.texts)
		}
		for i, k := range l {
			if k.At != c.at[i] || k.Line != 1+strings.Count(s[:k.At], "\n") || k.Kind != kindOf(k.Text) {
				t.Fatalf("%q: %v, not at %d", s, k, c.at[i])
			}
		}
	}
	if refused < 1000 || refused > 19000 {
		t.Error("refused:", refused)
	}
}

func kindOf(s string) api.ReadKind {
	switch {
	case slices.Contains(keywords, s):
		return api.ReadWord
	case isName(s):
		return api.ReadName
	case isInt(s):
		return api.ReadInt
	}
	return api.ReadSign
}
