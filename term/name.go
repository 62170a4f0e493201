package term

import "iter"

// letters is how many letters a name has at most.
const letters = 8

// keywords returns a map, as the package level holds none.
func keywords() map[string]bool {
	return map[string]bool{
		"and": true, "def": true, "else": true, "go": true, "if": true,
		"in": true, "place": true, "stop": true, "then": true, "watch": true,
	}
}

// spelt reports whether a string consists of as many letters as a name or a keyword.
func spelt(s string) bool {
	for i := range len(s) {
		if s[i] < 'a' || s[i] > 'z' {
			return false
		}
	}
	return len(s) >= 1 && len(s) <= letters
}

// allNames goes through all names: by their length, and sorted with the same length.
func allNames() iter.Seq[string] {
	return func(yield func(string) bool) {
		words := keywords()
		for s := "a"; len(s) <= letters; s = following(s) {
			if !words[s] && !yield(s) {
				return
			}
		}
	}
}

// following returns the string of letters that comes next.
func following(s string) string {
	b := []byte(s)
	for i := len(b) - 1; i >= 0; i-- {
		if b[i] < 'z' {
			b[i]++
			return string(b)
		}
		b[i] = 'a'
	}
	return "a" + string(b)
}

// unused returns the first name that is not used.
func unused(used map[string]bool) string {
	for s := range allNames() {
		if !used[s] {
			return s
		}
	}
	return ""
}

// among returns the set of some strings.
func among(l []string) map[string]bool {
	set := map[string]bool{}
	for _, s := range l {
		set[s] = true
	}
	return set
}
