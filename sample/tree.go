// Package sample: trees, programs, texts, events and queries to try the other packages with. Which ones, is told by draws of whoever asks.
package sample

import "hindsight/api"

// Draw a number from 0 on, that is below n.
type Draw func(n int) int

// Tree that passes Check of chapter 2, within all limits. Its names need not be there.
func Tree(draw Draw) api.Tree {
	m := treeMaker{newMaker(draw)}
	var t api.Tree
	for range draw(api.MaxFuncs) {
		t.Funcs = append(t.Funcs, m.function())
	}
	t.Funcs = append(t.Funcs, api.TreeFunc{Vars: m.vars(), Cmds: m.cmds(1)})
	return t
}

// maker of what has commands, not more than there may be.
type maker struct {
	draw     Draw
	cmdsLeft int
}

func newMaker(draw Draw) maker { return maker{draw: draw, cmdsLeft: draw(api.MaxCmds + 1)} }

// some commands, so deep in others.
func some[T any](m *maker, deep int, cmd func(deep int) T) []T {
	var l []T
	for range m.draw(6) {
		if m.cmdsLeft == 0 || deep > api.MaxDeep {
			break
		}
		m.cmdsLeft--
		l = append(l, cmd(deep))
	}
	return l
}

type treeMaker struct{ maker }

func (m *treeMaker) function() api.TreeFunc {
	f := api.TreeFunc{Name: m.name(), Vars: m.vars(), Cmds: m.cmds(1), Result: m.expr(api.MaxExpr)}
	for range m.draw(api.MaxParams + 1) {
		f.Params = append(f.Params, m.name())
	}
	return f
}

func (m *treeMaker) name() string {
	return [...]string{"a", "b", "x", "i9", "reads", "mains", "abcdefghijkl"}[m.draw(7)]
}

func (m *treeMaker) vars() []api.TreeVar {
	var l []api.TreeVar
	for range m.draw(api.MaxVars + 1) {
		v := api.TreeVar{Name: m.name()}
		if m.draw(2) == 0 {
			v.Size = [...]int{1, api.MaxSize, api.MaxSize + 1, api.MaxNumber}[m.draw(4)]
		}
		l = append(l, v)
	}
	return l
}

func (m *treeMaker) cmds(deep int) []api.TreeCmd { return some(&m.maker, deep, m.cmd) }

func (m *treeMaker) cmd(deep int) api.TreeCmd {
	c := api.TreeCmd{Kind: api.CmdSet + m.draw(api.CmdWhile)}
	if c.Kind <= api.CmdRead {
		c.Name = m.name()
	}
	if c.Kind != api.CmdCall && c.Kind != api.CmdRead {
		c.Expr = m.expr(api.MaxExpr)
	}
	switch c.Kind {
	case api.CmdPut:
		c.Index = m.expr(api.MaxExpr)
	case api.CmdCall:
		c.Other = m.name()
		for range m.draw(api.MaxParams + 1) {
			c.Args = append(c.Args, m.expr(api.MaxExpr))
		}
	case api.CmdIf:
		c.Then, c.Else = m.cmds(deep+1), m.cmds(deep+1)
	case api.CmdWhile:
		c.Then = m.cmds(deep + 1)
	}
	return c
}

// expr of at most so many parts.
func (m *treeMaker) expr(most int) api.TreeExpr {
	switch n := m.draw(6); {
	case n >= 3 && most >= 3:
		left := 1 + m.draw(most-2)
		return api.TreeExpr{Kind: api.ExprAdd + m.draw(7), Args: []api.TreeExpr{m.expr(left), m.expr(most - 1 - left)}}
	case n == 2 && most >= 2:
		return api.TreeExpr{Kind: api.ExprCell, Name: m.name(), Args: []api.TreeExpr{m.expr(most - 1)}}
	case n == 1:
		return api.TreeExpr{Kind: api.ExprName, Name: m.name()}
	}
	return api.TreeExpr{Kind: api.ExprNumber, N: [...]int{0, 1, -1, 42, api.MaxNumber, -api.MaxNumber}[m.draw(6)]}
}
