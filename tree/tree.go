// Package tree: trees: see doc/02-tree.md.
package tree

import (
	"hindsight/api"
	"hindsight/token"
)

// Check a tree.
func Check(t api.Tree) api.Errno {
	if isTooMuch(t) {
		return api.ErrMany
	}
	if !isWellFormed(t) {
		return api.ErrForm
	}
	return api.OK
}

// Parse a text.
func Parse(s string) (api.Tree, int, api.Errno) {
	l, at, why := token.Scan(s)
	if why != api.OK {
		return api.Tree{}, at, why
	}
	t, at, why := parse(l, len(s))
	if why != api.OK {
		return api.Tree{}, at, why
	}
	if why := Check(t); why != api.OK {
		return api.Tree{}, 0, why
	}
	return t, 0, api.OK
}

// isWord: is it a word of the language, that can't be a name?
func isWord(s string) bool {
	switch s {
	case "func", "main", "var", "arr", "read", "print", "if", "else", "while", "return":
		return true
	}
	return false
}
