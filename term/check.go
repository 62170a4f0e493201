package term

import "cabotage/api"

// refusal is what gives up: the error that is returned.
type refusal api.Errno

func refuse(e api.Errno) { panic(refusal(e)) }

// attempt returns what work does, or the error with which it gave up.
func attempt[T any](work func() T) (result T, e api.Errno) {
	defer func() {
		switch r := recover().(type) {
		case nil:
		case refusal:
			e = api.Errno(r)
		default:
			e = api.ErrArg
		}
	}()
	return work(), api.OK
}

// mustBeFormed gives up for a part that is not formed.
func mustBeFormed(p part) {
	count := 0
	for q, level := range nodes(p) {
		count++
		if count > api.TermNodes || level > api.TermDepth || !shaped(q) {
			refuse(api.ErrArg)
		}
	}
	// What a TermDef defines is asked last: only now it is sure that no list holds itself.
	for q := range nodes(p) {
		if t, ok := q.(process); ok && t.Op == api.TermDef && !agree(t.Defs) {
			refuse(api.ErrArg)
		}
	}
}

// formed returns ErrArg for a part that is not formed.
func formed(p part) api.Errno {
	_, e := attempt(func() bool {
		mustBeFormed(p)
		return true
	})
	return e
}

// mustBeName gives up for a string that is no name.
func mustBeName(s string) {
	if !Name(s) {
		refuse(api.ErrArg)
	}
}

// mustFit gives up for a process that has become too large.
func mustFit(t api.Term) {
	if Check(t) != api.OK {
		refuse(api.ErrLong)
	}
}

// shaped reports whether a part has what its kind has; its parts are not looked at.
func shaped(p part) bool {
	switch x := p.(type) {
	case process:
		return shapedProcess(x)
	case expression:
		return shapedExpression(x)
	case definition:
		return shapedDefinition(x)
	}
	return false
}

func shapedProcess(t process) bool {
	args, defs, kids := len(t.Args), len(t.Defs), len(t.Kids)
	switch t.Op {
	case api.TermNil, api.TermStop:
		return t.Text == "" && args == 0 && defs == 0 && kids == 0
	case api.TermSend:
		return Name(t.Text) && args <= api.TermArgs && defs == 0 && kids == 0
	case api.TermPar:
		return t.Text == "" && args == 0 && defs == 0 && kids == 2
	case api.TermDef:
		return t.Text == "" && args == 0 && defs >= 1 && defs <= api.TermDefs && kids == 1
	case api.TermIf:
		return t.Text == "" && args == 1 && defs == 0 && kids == 2
	case api.TermGo, api.TermWatch:
		return Name(t.Text) && args == 0 && defs == 0 && kids == 1
	}
	return false
}

func shapedExpression(e expression) bool {
	switch e.Op {
	case api.TermInt:
		return e.N >= -api.TermMost && e.N <= api.TermMost && e.Text == "" && len(e.Kids) == 0
	case api.TermName:
		return e.N == 0 && Name(e.Text) && len(e.Kids) == 0
	case api.TermAdd, api.TermSub, api.TermMul, api.TermLess, api.TermSame:
		return e.N == 0 && e.Text == "" && len(e.Kids) == 2
	}
	return false
}

func shapedDefinition(d definition) bool {
	defs, kids := len(d.Defs), len(d.Kids)
	switch d.Form {
	case api.TermRule:
		return d.Text == "" && joined(d.Joins) && defs == 0 && kids == 1
	case api.TermPlace:
		return Name(d.Text) && len(d.Joins) == 0 && defs <= api.TermDefs && kids == 1
	}
	return false
}

// joined reports whether a rule can have such Joins.
func joined(l []api.TermMsg) bool {
	if len(l) < 1 || len(l) > api.TermJoins {
		return false
	}
	var texts, values []string
	for _, j := range l {
		if len(j.Names) > api.TermArgs {
			return false
		}
		texts = append(texts, j.Text)
		values = append(values, j.Names...)
	}
	return differ(texts) && differ(values)
}

// differ reports whether some strings are names, no two of them the same.
func differ(l []string) bool {
	for _, s := range l {
		if !Name(s) {
			return false
		}
	}
	return len(among(l)) == len(l)
}
