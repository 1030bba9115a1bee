// Package token: tokens: see doc/01-token.md.
package token

import (
	"strings"

	"hindsight/api"
)

// The signs of one byte, and the one of two.
const (
	shortSigns = "{}()[];,=+-*/%<"
	longSign   = "=="
)

// place of a text at which no token can be had, and why: a type of its own, so that no other panic is taken for it.
type place struct {
	at  int
	why api.Errno
}

// Scan a text.
func Scan(s string) ([]api.Token, int, api.Errno) {
	if len(s) > api.MaxText {
		return nil, 0, api.ErrMany
	}
	return scan(s)
}

// Join tokens.
func Join(l []api.Token) (string, api.Errno) {
	size := 0
	for i, t := range l {
		if !isAlone(t) {
			return "", api.ErrForm
		}
		if i > 0 {
			size++
		}
		size += len(t.Text)
	}
	if size > api.MaxText {
		return "", api.ErrMany
	}
	return withBlanks(l), api.OK
}

func scan(s string) (l []api.Token, at int, why api.Errno) {
	defer func() {
		what := recover()
		if what == nil {
			return
		}
		p, ok := what.(place)
		if !ok {
			panic(what)
		}
		l, at, why = nil, p.at, p.why
	}()
	for i := behindGap(s, 0); i < len(s); {
		t := tokenAt(s, i)
		l = append(l, t)
		i = behindGap(s, i+len(t.Text))
	}
	return l, 0, api.OK
}

// behindGap: where the next token must begin, or the text's end.
func behindGap(s string, i int) int {
	for i < len(s) {
		switch s[i] {
		case ' ', '\t', '\n':
			i++
		case '#':
			i = behind(s, i, func(b byte) bool { return b != '\n' })
		default:
			return i
		}
	}
	return i
}

// behind all bytes, from i on, at which it goes on.
func behind(s string, i int, goesOn func(b byte) bool) int {
	for i < len(s) && goesOn(s[i]) {
		i++
	}
	return i
}

func tokenAt(s string, at int) api.Token {
	switch b := s[at]; {
	case isLetter(b):
		return nameAt(s, at)
	case isDigit(b):
		return numberAt(s, at)
	case strings.HasPrefix(s[at:], longSign):
		return api.Token{Kind: api.TokenSign, At: at, Text: longSign}
	case strings.IndexByte(shortSigns, b) >= 0:
		return api.Token{Kind: api.TokenSign, At: at, Text: s[at : at+1]}
	}
	panic(place{at: at, why: api.ErrForm})
}

func nameAt(s string, at int) api.Token {
	end := behind(s, at, func(b byte) bool { return isLetter(b) || isDigit(b) })
	if end-at > api.MaxName {
		panic(place{at: at, why: api.ErrMany})
	}
	return api.Token{Kind: api.TokenName, At: at, Text: s[at:end]}
}

func numberAt(s string, at int) api.Token {
	end := behind(s, at, isDigit)
	if end-at > api.MaxDigits {
		panic(place{at: at, why: api.ErrMany})
	}
	if s[at] == '0' && end-at > 1 {
		panic(place{at: at, why: api.ErrForm})
	}
	return api.Token{Kind: api.TokenNumber, At: at, Text: s[at:end]}
}

func isLetter(b byte) bool { return 'a' <= b && b <= 'z' }

func isDigit(b byte) bool { return '0' <= b && b <= '9' }

// isAlone: is a token all that its text has? (A blank or a remark beside it would be lost when it is scanned again.)
func isAlone(t api.Token) bool {
	l, _, why := Scan(t.Text)
	return why == api.OK && len(l) == 1 && l[0].Kind == t.Kind && l[0].Text == t.Text
}

func withBlanks(l []api.Token) string {
	var b strings.Builder
	for i, t := range l {
		if i > 0 {
			b.WriteByte(' ')
		}
		b.WriteString(t.Text)
	}
	return b.String()
}
