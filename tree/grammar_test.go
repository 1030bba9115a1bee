package tree_test

import (
	"strings"
	"unicode"
)

// grammar of B1: what each word in capitals may be; "number" is one that is not 0. It tells what may stand somewhere in another way than the parser does.
func grammar() map[string][]string {
	return map[string][]string{
		"TEXT":      {"FUNC TEXT", "main { VARS CMDS }"},
		"FUNC":      {"func name ( NAMES ) { VARS CMDS return EXPR ; }"},
		"NAMES":     {"", "name MORENAMES"},
		"MORENAMES": {"", ", name MORENAMES"},
		"VARS":      {"", "var name ; VARS", "arr name number ; VARS"},
		"CMDS":      {"", "CMD CMDS"},
		"CMD":       {"name = EXPR ;", "name [ EXPR ] = EXPR ;", "name = name ( ARGS ) ;", "name = read ;", "print EXPR ;", "if EXPR BLOCK ELSE", "while EXPR BLOCK"},
		"BLOCK":     {"{ CMDS }"},
		"ELSE":      {"", "else BLOCK"},
		"ARGS":      {"", "EXPR MOREARGS"},
		"MOREARGS":  {"", ", EXPR MOREARGS"},
		"EXPR":      {"0", "number", "- number", "name", "name [ EXPR ]", "( EXPR OP EXPR )"},
		"OP":        {"+", "-", "*", "/", "%", "<", "=="},
	}
}

// firstWrong: which of the tokens can't stand there: their number, if more must come; -1, if they are a text.
func firstWrong(tokens []string) int {
	g := grammar()
	rests := map[string]bool{}
	expand(g, "TEXT", rests)
	for i, s := range tokens {
		next := map[string]bool{}
		for rest := range rests {
			if first, others, _ := strings.Cut(rest, " "); first == class(s) {
				expand(g, others, next)
			}
		}
		if len(next) == 0 {
			return i
		}
		rests = next
	}
	if rests[""] {
		return -1
	}
	return len(tokens)
}

// expand what may come until it begins with a token.
func expand(g map[string][]string, rest string, into map[string]bool) {
	first, others, _ := strings.Cut(rest, " ")
	if g[first] == nil {
		into[rest] = true
	}
	for _, way := range g[first] {
		expand(g, strings.TrimSpace(way+" "+others), into)
	}
}

// class of a token, as the grammar has it.
func class(s string) string {
	switch {
	case strings.Contains(" func main var arr read print if else while return 0 ", " "+s+" "):
		return s
	case unicode.IsLetter(rune(s[0])):
		return "name"
	case unicode.IsDigit(rune(s[0])):
		return "number"
	}
	return s
}
