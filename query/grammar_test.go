package query_test

import (
	"math/rand"
	"strings"
	"testing"

	"hindsight/api"
	"hindsight/query"
	"hindsight/sample"
)

// grammar of M2: what each word in capitals may be; "number" is one that is not 0. It tells what may stand somewhere in another way than the parser does.
func grammar() map[string][]string {
	return map[string][]string{
		"QUERY":  {"step ANY", "write ANY", "call ANY", "print", "less SIGNED", "same SIGNED", "not QUERY", "prev QUERY", "once QUERY", "all QUERY", "soon COUNT QUERY", "( QUERY OP QUERY )"},
		"ANY":    {"any", "COUNT"},
		"SIGNED": {"COUNT", "- number"},
		"COUNT":  {"0", "number"},
		"OP":     {"and", "or", "since"},
	}
}

// firstWrong: which of the tokens can't stand there: their number, if more must come; -1, if they are a query.
func firstWrong(tokens []string) int {
	rests := map[string]bool{}
	expand(grammar(), "QUERY", rests)
	for i, s := range tokens {
		if s[0] >= '1' && s[0] <= '9' {
			s = "number"
		}
		next := map[string]bool{}
		for rest := range rests {
			if first, others, _ := strings.Cut(rest, " "); first == s {
				expand(grammar(), others, next)
			}
		}
		if len(next) == 0 {
			return i
		}
		rests = next
	}
	if rests[""] {
		return -1
	}
	return len(tokens)
}

// expand what may come until it begins with a token.
func expand(g map[string][]string, rest string, into map[string]bool) {
	first, others, _ := strings.Cut(rest, " ")
	if g[first] == nil {
		into[rest] = true
	}
	for _, way := range g[first] {
		expand(g, strings.TrimSpace(way+" "+others), into)
	}
}

// changed: one token gone, or put in, or another one.
func changed(r *rand.Rand, tokens []string) []string {
	all := strings.Fields("step write call print less same not prev once all soon any and or since ( ) - 0 1 4000 x { ==")
	i := r.Intn(len(tokens))
	m := append([]string{}, tokens[:i]...)
	if r.Intn(3) > 0 {
		m = append(m, all[r.Intn(len(all))])
	}
	return append(m, tokens[i+r.Intn(2):]...)
}

// TestM2Grammar: where something can't stand, is told as the grammar has it.
func TestM2Grammar(t *testing.T) {
	r := rand.New(rand.NewSource(3))
	found := [2]int{}
	for range 6000 {
		s, _ := query.Print(sample.Ask(r.Intn))
		tokens := words(s)
		for range 1 + r.Intn(2) {
			if len(tokens) > 0 {
				tokens = changed(r, tokens)
			}
		}
		text, places := "", []int{}
		for _, w := range tokens {
			places = append(places, len(text))
			text += w + " "
		}
		wrong := firstWrong(tokens)
		if wrong >= 0 {
			found[0]++
			expectWrong(t, text, append(places, len(text))[wrong], api.ErrForm)
			continue
		}
		found[1]++
		q, at, e := query.Parse(text)
		if at != 0 || e != api.OK && e != api.ErrMany && e != api.ErrRange {
			t.Errorf("Parse(%q): %d %d", text, at, e)
		}
		if e != api.OK {
			continue
		}
		if s, _ := query.Print(q); strings.Join(words(s), " ") != strings.TrimSpace(text) {
			t.Errorf("Parse(%q): %v, which is %q", text, q, s)
		}
	}
	if min(found[0], found[1]) < 500 {
		t.Errorf("%v", found)
	}
}
