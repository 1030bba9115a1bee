package query

import (
	"slices"
	"strconv"

	"hindsight/api"
)

// maxAround is in how many others, brackets and words together, a query may stand. A bracket, in which queries would stand in more, can't stand there itself.
const maxAround = 60

// place of a text at which a token can't stand: a type of its own, so that no other panic is taken for it.
type place int

// parser of tokens: which one is next; where the text ends.
type parser struct {
	tokens    []api.Token
	next, end int
}

func parse(l []api.Token, end int) (q api.Ask, at int, why api.Errno) {
	defer func() {
		what := recover()
		if what == nil {
			return
		}
		p, ok := what.(place)
		if !ok {
			panic(what)
		}
		q, at, why = api.Ask{}, int(p), api.ErrForm
	}()
	p := parser{tokens: l, end: end}
	q = p.query(0)
	p.giveUpIf(p.next < len(l))
	return q, 0, api.OK
}

// giveUpIf the next token can't stand there; at the text's end, if there is none.
func (p *parser) giveUpIf(wrong bool) {
	if !wrong {
		return
	}
	if p.next < len(p.tokens) {
		panic(place(p.tokens[p.next].At))
	}
	panic(place(p.end))
}

// ahead: the next token; of no kind, if there is none.
func (p *parser) ahead() api.Token {
	if p.next < len(p.tokens) {
		return p.tokens[p.next]
	}
	return api.Token{}
}

// sees one of these words next.
func (p *parser) sees(words ...string) bool { return slices.Contains(words, p.ahead().Text) }

// take the next token, which must be one of these words.
func (p *parser) take(words ...string) string {
	p.giveUpIf(!p.sees(words...))
	word := p.ahead().Text
	p.next++
	return word
}

func (p *parser) takeIf(word string) bool {
	is := p.sees(word)
	if is {
		p.next++
	}
	return is
}

// query that stands in so many others.
func (p *parser) query(around int) api.Ask {
	p.giveUpIf(around > maxAround)
	if p.sees("(") {
		p.giveUpIf(around == maxAround)
		return p.pair(around)
	}
	kind, r := kindOf(p.take("step", "write", "call", "print", "less", "same", "not", "prev", "once", "all", "soon"))
	q := api.Ask{Kind: kind}
	if r.hasNumber() {
		q.N = p.number(r)
	}
	if r.args == 1 {
		q.Args = []api.Ask{p.query(around + 1)}
	}
	return q
}

// pair of queries, in brackets that stand in so many others.
func (p *parser) pair(around int) api.Ask {
	p.take("(")
	first := p.query(around + 1)
	kind, _ := kindOf(p.take("and", "or", "since"))
	second := p.query(around + 1)
	p.take(")")
	return api.Ask{Kind: kind, Args: []api.Ask{first, second}}
}

// number as it may be by a rule, but that it may be too great: that is no matter of form.
func (p *parser) number(r rule) int {
	if r.mayBeAny() && p.takeIf("any") {
		return whatever
	}
	if r.mayBeBelow() && p.takeIf("-") {
		p.giveUpIf(p.sees("0"))
		return -p.digits()
	}
	return p.digits()
}

func (p *parser) digits() int {
	p.giveUpIf(p.ahead().Kind != api.TokenNumber)
	n, _ := strconv.Atoi(p.ahead().Text) // so few digits as Scan lets through are always a number
	p.next++
	return n
}
