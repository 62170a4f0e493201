package read

import (
	"iter"
	"strings"

	"cabotage/api"
)

// digits is how many digits an integer has at most.
const digits = 10

// signs are in the order in which they are put into a source that is mended.
var signs = [...]string{"(", ")", "{", "}", ",", ";", "|", "&", "=", "==", "<", "+", "-", "*"}

// keywords returns a map, as the package level holds none.
func keywords() map[string]bool {
	return map[string]bool{
		"and": true, "def": true, "else": true, "go": true, "if": true,
		"in": true, "place": true, "stop": true, "then": true, "watch": true,
	}
}

// tokens goes through the tokens of a source. Behind them comes what they end with, which has no kind: the first byte at which there is neither a token nor a blank, or the end, whose text is empty.
func tokens(source string) iter.Seq[api.ReadToken] {
	return func(yield func(api.ReadToken) bool) {
		words := keywords()
		t := api.ReadToken{Line: 1}
		for {
			between := blanks(source[t.At:])
			t.Line += strings.Count(source[t.At:t.At+between], "\n")
			t.At += between
			t.Text = piece(source[t.At:])
			t.Kind = kind(t.Text, words)
			if t.Kind == 0 && t.Text != "" {
				t.Text = t.Text[:1]
			}
			if !yield(t) || t.Kind == 0 {
				return
			}
			t.At += len(t.Text)
		}
	}
}

// blanks returns how many bytes of blanks there are in front of all else.
func blanks(s string) int {
	n := 0
	for n < len(s) {
		switch {
		case s[n] == ' ' || s[n] == '\t' || s[n] == '\n':
			n++
		case strings.HasPrefix(s[n:], "//"):
			n += run(s[n:], func(c byte) bool { return c != '\n' })
		default:
			return n
		}
	}
	return n
}

// run returns how many bytes at the beginning of s belong together.
func run(s string, belongs func(c byte) bool) int {
	for i := range len(s) {
		if !belongs(s[i]) {
			return i
		}
	}
	return len(s)
}

func letter(c byte) bool { return c >= 'a' && c <= 'z' }

func digit(c byte) bool { return c >= '0' && c <= '9' }

func sign(s string) bool {
	for _, t := range signs {
		if s == t {
			return true
		}
	}
	return false
}

// piece returns what belongs together at the beginning of s, a token or not.
func piece(s string) string {
	switch {
	case s == "":
		return ""
	case letter(s[0]):
		return s[:run(s, letter)]
	case digit(s[0]) || s[0] == '~':
		return s[:1+run(s[1:], digit)]
	case strings.HasPrefix(s, "=="):
		return s[:2]
	}
	return s[:1]
}

// kind returns the kind of a piece, or 0 if it is no token.
func kind(s string, words map[string]bool) api.ReadKind {
	switch {
	case words[s]:
		return api.ReadWord
	case sign(s):
		return api.ReadSign
	case s != "" && len(s) <= api.ReadLetter && letter(s[0]):
		return api.ReadName
	case integer(s):
		return api.ReadInt
	}
	return 0
}

// made returns a token that stands in no source.
func made(s string) api.ReadToken {
	return api.ReadToken{Kind: kind(s, keywords()), Text: s}
}

func integer(s string) bool {
	below := strings.HasPrefix(s, "~")
	s = strings.TrimPrefix(s, "~")
	if s == "" || len(s) > digits || !digit(s[0]) {
		return false
	}
	return s[0] != '0' || s == "0" && !below
}
