package session

import (
	"strconv"
	"strings"

	"hindsight/api"
	"hindsight/state"
	"hindsight/when"
)

// told: from when to when a query holds, and what was when it first did. The trace is one of the program, and the query is right: so nothing is wrong in what is asked here.
func told(p api.Program, l []api.Event, q api.Ask) string {
	spans, _ := when.Spans(q, l)
	text := ""
	for _, s := range spans {
		text += line(number(s[0]), number(s[1]))
	}
	if first, ok, _ := when.First(q, l); ok {
		frames, _ := state.At(p, l, first)
		for _, f := range frames {
			text += frameLine(f)
		}
	}
	return text
}

func frameLine(f api.Frame) string {
	words := []string{"frame", number(f.Number), number(f.Func)}
	for _, cells := range f.Vars {
		words = append(words, strings.Join(numbers(cells), ","))
	}
	return line(words...)
}

func line(words ...string) string { return strings.Join(words, " ") + "\n" }

func numbers(l []int) []string {
	var texts []string
	for _, n := range l {
		texts = append(texts, number(n))
	}
	return texts
}

func number(n int) string { return strconv.Itoa(n) }
