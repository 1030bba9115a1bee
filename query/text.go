package query

import (
	"strconv"

	"hindsight/api"
)

// textOf a query that passes Check.
func textOf(q api.Ask) string {
	r, _ := ruleOf(q.Kind)
	head := r.word
	if r.hasNumber() {
		head += " " + numberText(q.N, r)
	}
	switch r.args {
	case 1:
		return head + " " + textOf(q.Args[0])
	case 2:
		return "(" + textOf(q.Args[0]) + " " + head + " " + textOf(q.Args[1]) + ")"
	}
	return head
}

func numberText(n int, r rule) string {
	if n == whatever && r.mayBeAny() {
		return "any"
	}
	return strconv.Itoa(n)
}
