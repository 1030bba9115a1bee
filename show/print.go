package show

import (
	"strconv"
	"strings"

	"hindsight/api"
)

// printer of a tree that passes Check: its text so far, and how many blanks a line begins with.
type printer struct {
	strings.Builder
	blanks int
}

func (p *printer) line(parts ...string) {
	p.WriteString(strings.Repeat(" ", p.blanks))
	for _, s := range parts {
		p.WriteString(s)
	}
	p.WriteByte('\n')
}

// further in than what stands around them: the lines that a function puts.
func (p *printer) further(lines func()) {
	p.blanks += 2
	lines()
	p.blanks -= 2
}

func (p *printer) tree(t api.Tree) {
	last := len(t.Funcs) - 1
	for _, f := range t.Funcs[:last] {
		p.function(f)
	}
	p.main(t.Funcs[last])
}

func (p *printer) function(f api.TreeFunc) {
	params := withCommas(f.Params, func(name string) string { return name })
	p.line("func ", f.Name, "(", params, ") {")
	p.further(func() {
		p.vars(f.Vars)
		p.cmds(f.Cmds)
		p.line("return ", expr(f.Result), ";")
	})
	p.line("}")
}

func (p *printer) main(f api.TreeFunc) {
	p.line("main {")
	p.further(func() {
		p.vars(f.Vars)
		p.cmds(f.Cmds)
	})
	p.line("}")
}

func (p *printer) vars(l []api.TreeVar) {
	for _, v := range l {
		if v.Size == 0 {
			p.line("var ", v.Name, ";")
		} else {
			p.line("arr ", v.Name, " ", strconv.Itoa(v.Size), ";")
		}
	}
}

func (p *printer) cmds(l []api.TreeCmd) {
	for _, c := range l {
		p.cmd(c)
	}
}

func (p *printer) block(l []api.TreeCmd) {
	p.further(func() { p.cmds(l) })
}

func (p *printer) cmd(c api.TreeCmd) {
	switch c.Kind {
	case api.CmdSet:
		p.line(c.Name, " = ", expr(c.Expr), ";")
	case api.CmdPut:
		p.line(cell(c.Name, c.Index), " = ", expr(c.Expr), ";")
	case api.CmdCall:
		p.line(c.Name, " = ", c.Other, "(", withCommas(c.Args, expr), ");")
	case api.CmdRead:
		p.line(c.Name, " = read;")
	case api.CmdPrint:
		p.line("print ", expr(c.Expr), ";")
	case api.CmdIf:
		p.line("if ", expr(c.Expr), " {")
		p.block(c.Then)
		if len(c.Else) > 0 {
			p.line("} else {")
			p.block(c.Else)
		}
		p.line("}")
	case api.CmdWhile:
		p.line("while ", expr(c.Expr), " {")
		p.block(c.Then)
		p.line("}")
	}
}

func expr(e api.TreeExpr) string {
	switch e.Kind {
	case api.ExprNumber:
		return strconv.Itoa(e.N)
	case api.ExprName:
		return e.Name
	case api.ExprCell:
		return cell(e.Name, e.Args[0])
	}
	return "(" + expr(e.Args[0]) + " " + sign(e.Kind) + " " + expr(e.Args[1]) + ")"
}

func cell(name string, index api.TreeExpr) string { return name + "[" + expr(index) + "]" }

// sign of an expression that is made of two.
func sign(kind int) string {
	return [...]string{"+", "-", "*", "/", "%", "<", "=="}[kind-api.ExprAdd]
}

// withCommas: the texts of things, a comma and a blank between.
func withCommas[T any](l []T, text func(thing T) string) string {
	var all []string
	for _, thing := range l {
		all = append(all, text(thing))
	}
	return strings.Join(all, ", ")
}
