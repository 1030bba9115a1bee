package query

import "hindsight/api"

// whatever stands for each number, where a query may ask for any.
const whatever = -1

// rule of a kind of queries: its word, how many Args it must have, from where to where N may be.
type rule struct {
	word        string
	args        int
	least, most int
}

// ruleOf a kind; false, if it is none.
func ruleOf(kind int) (rule, bool) {
	switch kind {
	case api.AskStep:
		return rule{word: "step", least: whatever, most: api.MaxNumber}, true
	case api.AskWrite:
		return rule{word: "write", least: whatever, most: api.MaxNumber}, true
	case api.AskCall:
		return rule{word: "call", least: whatever, most: api.MaxNumber}, true
	case api.AskPrint:
		return rule{word: "print"}, true
	case api.AskLess:
		return rule{word: "less", least: -api.MaxNumber, most: api.MaxNumber}, true
	case api.AskSame:
		return rule{word: "same", least: -api.MaxNumber, most: api.MaxNumber}, true
	case api.AskNot:
		return rule{word: "not", args: 1}, true
	case api.AskAnd:
		return rule{word: "and", args: 2}, true
	case api.AskOr:
		return rule{word: "or", args: 2}, true
	case api.AskPrev:
		return rule{word: "prev", args: 1}, true
	case api.AskOnce:
		return rule{word: "once", args: 1}, true
	case api.AskAll:
		return rule{word: "all", args: 1}, true
	case api.AskSince:
		return rule{word: "since", args: 2}, true
	case api.AskSoon:
		return rule{word: "soon", args: 1, most: api.MaxTrace}, true
	}
	return rule{}, false
}

// kindOf a word, and its rule.
func kindOf(word string) (int, rule) {
	for kind := api.AskStep; ; kind++ {
		if r, ok := ruleOf(kind); !ok || r.word == word {
			return kind, r
		}
	}
}

// hasNumber: does a number stand behind the word?
func (r rule) hasNumber() bool { return r.most > 0 }

// mayBeAny: may it be whatever?
func (r rule) mayBeAny() bool { return r.least == whatever }

// mayBeBelow 0, as a number like any?
func (r rule) mayBeBelow() bool { return r.least < whatever }

// leftOfParts: of so many parts that a query may have, how many are left behind this one; below 0, if it has more. It stops there, for a list may have itself in it.
func leftOfParts(q api.Ask, left int) int {
	left--
	for _, a := range q.Args {
		if left < 0 {
			return left
		}
		left = leftOfParts(a, left)
	}
	return left
}

// wrongIn a query, part by part, each ahead of its Args.
func wrongIn(q api.Ask) api.Errno {
	r, ok := ruleOf(q.Kind)
	if !ok {
		return api.ErrKind
	}
	if len(q.Args) != r.args {
		return api.ErrForm
	}
	if q.N < r.least || q.N > r.most {
		return api.ErrRange
	}
	for _, a := range q.Args {
		if why := wrongIn(a); why != api.OK {
			return why
		}
	}
	return api.OK
}
