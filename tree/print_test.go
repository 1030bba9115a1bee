package tree_test

import (
	"strconv"
	"strings"

	"hindsight/api"
)

// printer of trees: each call answers what it printed, with At where that stands; what can't be told is a sign that is none.
type printer struct {
	strings.Builder
	gap func() string
}

func oneBlank() string { return " " }

// printed: the text of a tree, and the tree with its places.
func printed(t api.Tree, gap func() string) (string, api.Tree) {
	p := printer{gap: gap}
	p.WriteString(gap())
	var u api.Tree
	for i, f := range t.Funcs {
		u.Funcs = append(u.Funcs, p.function(f, i == len(t.Funcs)-1))
	}
	return p.String(), u
}

// put tokens; where the first one begins.
func (p *printer) put(tokens ...string) int {
	at := p.Len()
	for _, s := range tokens {
		p.WriteString(s)
		p.WriteString(p.gap())
	}
	return at
}

func (p *printer) function(f api.TreeFunc, isMain bool) api.TreeFunc {
	if isMain {
		f.At = p.put("main")
	} else {
		f.At = p.put("func", f.Name, "(")
		for i, s := range f.Params {
			if i > 0 {
				p.put(",")
			}
			p.put(s)
		}
		p.put(")")
	}
	p.put("{")
	for _, v := range f.Vars {
		if v.Size == 0 {
			p.put("var", v.Name, ";")
		} else {
			p.put("arr", v.Name, strconv.Itoa(v.Size), ";")
		}
	}
	f.Cmds = p.cmds(f.Cmds)
	if !isMain {
		p.put("return")
		f.Result = p.expr(f.Result)
		p.put(";")
	}
	p.put("}")
	return f
}

func (p *printer) cmds(l []api.TreeCmd) []api.TreeCmd {
	var m []api.TreeCmd
	for _, c := range l {
		m = append(m, p.cmd(c))
	}
	return m
}

func (p *printer) cmd(c api.TreeCmd) api.TreeCmd {
	switch c.Kind {
	case api.CmdSet:
		c.At = p.put(c.Name, "=")
		c.Expr = p.expr(c.Expr)
		p.put(";")
	case api.CmdPut:
		c.At = p.put(c.Name, "[")
		c.Index = p.expr(c.Index)
		p.put("]", "=")
		c.Expr = p.expr(c.Expr)
		p.put(";")
	case api.CmdCall:
		c.At = p.put(c.Name, "=", c.Other, "(")
		c.Args = p.args(c.Args)
		p.put(")", ";")
	case api.CmdRead:
		c.At = p.put(c.Name, "=", "read", ";")
	case api.CmdPrint:
		c.At = p.put("print")
		c.Expr = p.expr(c.Expr)
		p.put(";")
	case api.CmdIf, api.CmdWhile:
		c.At = p.put([]string{"if", "while"}[c.Kind-api.CmdIf])
		c.Expr = p.expr(c.Expr)
		p.put("{")
		c.Then = p.cmds(c.Then)
		p.put("}")
		if c.Kind == api.CmdIf && len(c.Else) > 0 {
			p.put("else", "{")
			c.Else = p.cmds(c.Else)
			p.put("}")
		}
	default:
		p.put("!")
	}
	return c
}

func (p *printer) args(l []api.TreeExpr) []api.TreeExpr {
	var m []api.TreeExpr
	for i, e := range l {
		if i > 0 {
			p.put(",")
		}
		m = append(m, p.expr(e))
	}
	return m
}

func (p *printer) expr(e api.TreeExpr) api.TreeExpr {
	switch {
	case e.Kind == api.ExprNumber && e.N < 0:
		e.At = p.put("-", strconv.Itoa(-e.N))
	case e.Kind == api.ExprNumber:
		e.At = p.put(strconv.Itoa(e.N))
	case e.Kind == api.ExprName:
		e.At = p.put(e.Name)
	case e.Kind == api.ExprCell && len(e.Args) == 1:
		e.At = p.put(e.Name, "[")
		e.Args = []api.TreeExpr{p.expr(e.Args[0])}
		p.put("]")
	case e.Kind >= api.ExprAdd && e.Kind <= api.ExprSame && len(e.Args) == 2:
		e.At = p.put("(")
		left := p.expr(e.Args[0])
		p.put([]string{"+", "-", "*", "/", "%", "<", "=="}[e.Kind-api.ExprAdd])
		e.Args = []api.TreeExpr{left, p.expr(e.Args[1])}
		p.put(")")
	default:
		e.At = p.put("!")
	}
	return e
}
