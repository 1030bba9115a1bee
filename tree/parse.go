package tree

import (
	"strconv"

	"hindsight/api"
)

// maxBrackets is in how many brackets, round and square together, an expression may stand.
const maxBrackets = 60

// place of a text at which a token can't stand: a type of its own, so that no other panic is taken for it.
type place int

// parser of tokens: which one is next; where the text ends; how many brackets are open.
type parser struct {
	tokens        []api.Token
	next          int
	end, brackets int
}

func parse(l []api.Token, end int) (t api.Tree, at int, why api.Errno) {
	defer func() {
		what := recover()
		if what == nil {
			return
		}
		p, ok := what.(place)
		if !ok {
			panic(what)
		}
		t, at, why = api.Tree{}, int(p), api.ErrForm
	}()
	p := parser{tokens: l, end: end}
	return p.tree(), 0, api.OK
}

// at: where the next token begins, or the text's end.
func (p *parser) at() int {
	if p.next < len(p.tokens) {
		return p.tokens[p.next].At
	}
	return p.end
}

func (p *parser) giveUp() { panic(place(p.at())) }

// ahead: the token that is so many behind the next one; of no kind, if there is none.
func (p *parser) ahead(n int) api.Token {
	if p.next+n < len(p.tokens) {
		return p.tokens[p.next+n]
	}
	return api.Token{}
}

func (p *parser) sees(text string) bool { return p.ahead(0).Text == text }

func (p *parser) seesName() bool {
	t := p.ahead(0)
	return t.Kind == api.TokenName && !isWord(t.Text)
}

func (p *parser) take() string {
	t := p.ahead(0)
	p.next++
	return t.Text
}

func (p *parser) takeIf(text string) bool {
	if !p.sees(text) {
		return false
	}
	p.next++
	return true
}

func (p *parser) want(text string) {
	if !p.takeIf(text) {
		p.giveUp()
	}
}

func (p *parser) name() string {
	if !p.seesName() {
		p.giveUp()
	}
	return p.take()
}

func (p *parser) number() int {
	if p.ahead(0).Kind != api.TokenNumber {
		p.giveUp()
	}
	n, _ := strconv.Atoi(p.take()) // so few digits as Scan lets through are always a number
	return n
}

// count: a number that is not 0.
func (p *parser) count() int {
	if p.sees("0") {
		p.giveUp()
	}
	return p.number()
}

// open a bracket; one too many can't stand there itself, whatever would follow.
func (p *parser) open(sign string) {
	if p.brackets == maxBrackets {
		p.giveUp()
	}
	p.want(sign)
	p.brackets++
}

func (p *parser) close(sign string) {
	p.want(sign)
	p.brackets--
}

// list in round brackets, of no things or more, commas between.
func (p *parser) list(thing func()) {
	p.open("(")
	if !p.sees(")") {
		thing()
		for p.takeIf(",") {
			thing()
		}
	}
	p.close(")")
}

func (p *parser) tree() api.Tree {
	var t api.Tree
	for p.sees("func") {
		t.Funcs = append(t.Funcs, p.function())
	}
	t.Funcs = append(t.Funcs, p.main())
	if p.next < len(p.tokens) {
		p.giveUp()
	}
	return t
}

func (p *parser) function() api.TreeFunc {
	f := api.TreeFunc{At: p.at()}
	p.want("func")
	f.Name = p.name()
	p.list(func() { f.Params = append(f.Params, p.name()) })
	p.want("{")
	f.Vars = p.vars()
	f.Cmds = p.cmds()
	p.want("return")
	f.Result = p.expr()
	p.want(";")
	p.want("}")
	return f
}

func (p *parser) main() api.TreeFunc {
	f := api.TreeFunc{At: p.at()}
	p.want("main")
	p.want("{")
	f.Vars = p.vars()
	f.Cmds = p.cmds()
	p.want("}")
	return f
}

func (p *parser) vars() []api.TreeVar {
	var l []api.TreeVar
	for {
		var v api.TreeVar
		switch {
		case p.takeIf("var"):
			v.Name = p.name()
		case p.takeIf("arr"):
			v.Name = p.name()
			v.Size = p.count()
		default:
			return l
		}
		p.want(";")
		l = append(l, v)
	}
}

// cmds: all that there are; whoever asks knows what must stand behind them.
func (p *parser) cmds() []api.TreeCmd {
	var l []api.TreeCmd
	for p.seesName() || p.sees("print") || p.sees("if") || p.sees("while") {
		l = append(l, p.cmd())
	}
	return l
}

func (p *parser) block() []api.TreeCmd {
	p.want("{")
	l := p.cmds()
	p.want("}")
	return l
}

func (p *parser) cmd() api.TreeCmd {
	c := api.TreeCmd{At: p.at()}
	switch {
	case p.takeIf("print"):
		c.Kind = api.CmdPrint
		c.Expr = p.expr()
		p.want(";")
	case p.takeIf("if"):
		c.Kind = api.CmdIf
		c.Expr = p.expr()
		c.Then = p.block()
		if p.takeIf("else") {
			c.Else = p.block()
		}
	case p.takeIf("while"):
		c.Kind = api.CmdWhile
		c.Expr = p.expr()
		c.Then = p.block()
	default:
		p.change(&c)
		p.want(";")
	}
	return c
}

// change: a command that begins with the name of what becomes something else.
func (p *parser) change(c *api.TreeCmd) {
	c.Name = p.name()
	if p.sees("[") {
		c.Kind = api.CmdPut
		c.Index = p.index()
		p.want("=")
		c.Expr = p.expr()
		return
	}
	p.want("=")
	switch {
	case p.takeIf("read"):
		c.Kind = api.CmdRead
	case p.seesName() && p.ahead(1).Text == "(":
		c.Kind = api.CmdCall
		c.Other = p.name()
		p.list(func() { c.Args = append(c.Args, p.expr()) })
	default:
		c.Kind = api.CmdSet
		c.Expr = p.expr()
	}
}

func (p *parser) index() api.TreeExpr {
	p.open("[")
	e := p.expr()
	p.close("]")
	return e
}

func (p *parser) expr() api.TreeExpr {
	e := api.TreeExpr{At: p.at()}
	switch {
	case p.sees("("):
		e.Kind, e.Args = p.operation()
	case p.takeIf("-"):
		e.Kind, e.N = api.ExprNumber, -p.count()
	case p.seesName():
		e.Kind, e.Name = api.ExprName, p.name()
		if p.sees("[") {
			e.Kind, e.Args = api.ExprCell, []api.TreeExpr{p.index()}
		}
	default:
		e.Kind, e.N = api.ExprNumber, p.number()
	}
	return e
}

func (p *parser) operation() (int, []api.TreeExpr) {
	p.open("(")
	left := p.expr()
	kind := operator(p.ahead(0).Text)
	if kind == 0 {
		p.giveUp()
	}
	p.next++
	right := p.expr()
	p.close(")")
	return kind, []api.TreeExpr{left, right}
}

// operator: which kind of expression a sign makes of two; 0, if none.
func operator(sign string) int {
	switch sign {
	case "+":
		return api.ExprAdd
	case "-":
		return api.ExprSub
	case "*":
		return api.ExprMul
	case "/":
		return api.ExprDiv
	case "%":
		return api.ExprRest
	case "<":
		return api.ExprLess
	case "==":
		return api.ExprSame
	}
	return 0
}
