package sample

import "hindsight/api"

// Program that passes Check of chapter 4.
func Program(draw Draw) api.Program {
	m := programMaker{maker: newMaker(draw)}
	for range draw(api.MaxFuncs) {
		m.function(draw(api.MaxParams + 1))
		now := &m.funcs[len(m.funcs)-1]
		now.Cmds = m.cmds(1)
		now.Result = m.value()
	}
	m.isMain = true
	m.function(0)
	m.funcs[len(m.funcs)-1].Cmds = m.cmds(1)
	return api.Program{Funcs: m.funcs}
}

// programMaker: the functions so far; commands are made for the last one of them.
type programMaker struct {
	maker
	funcs  []api.Func
	isMain bool
}

// function without commands.
func (m *programMaker) function(params int) {
	f := api.Func{Params: params, Sizes: make([]int, params)}
	for range m.draw(api.MaxVars + 1) {
		size := 0
		if m.draw(3) == 0 {
			size = 1 + m.draw(api.MaxSize)
		}
		f.Sizes = append(f.Sizes, size)
	}
	m.funcs = append(m.funcs, f)
}

// variable, or array, of the last function; false, if it has none.
func (m *programMaker) variable(isArray bool) (int, bool) {
	var l []int
	for i, size := range m.funcs[len(m.funcs)-1].Sizes {
		if (size != 0) == isArray {
			l = append(l, i)
		}
	}
	if len(l) == 0 {
		return 0, false
	}
	return l[m.draw(len(l))], true
}

// called: a function that may be called; false, if there is none.
func (m *programMaker) called() (int, bool) {
	most := len(m.funcs)
	if m.isMain {
		most--
	}
	if most == 0 {
		return 0, false
	}
	return m.draw(most), true
}

func (m *programMaker) cmds(deep int) []api.Cmd { return some(&m.maker, deep, m.cmd) }

// cmd of the kind that is drawn, or, if that needs what is not there, a print.
func (m *programMaker) cmd(deep int) api.Cmd {
	kind := api.CmdSet + m.draw(api.CmdWhile)
	switch kind {
	case api.CmdSet, api.CmdPut, api.CmdRead:
		if v, ok := m.variable(kind == api.CmdPut); ok {
			return m.change(kind, v)
		}
	case api.CmdCall:
		v, ok := m.variable(false)
		if f, has := m.called(); ok && has {
			return m.call(v, f)
		}
	case api.CmdIf:
		return api.Cmd{Kind: kind, Expr: m.value(), Then: m.cmds(deep + 1), Else: m.cmds(deep + 1)}
	case api.CmdWhile:
		return api.Cmd{Kind: kind, Expr: m.value(), Then: m.cmds(deep + 1)}
	}
	return api.Cmd{Kind: api.CmdPrint, Expr: m.value()}
}

func (m *programMaker) change(kind, v int) api.Cmd {
	c := api.Cmd{Kind: kind, Var: v}
	if kind == api.CmdPut {
		c.Index = m.expr(1 + m.draw(3))
	}
	if kind != api.CmdRead {
		c.Expr = m.value()
	}
	return c
}

func (m *programMaker) call(v, f int) api.Cmd {
	c := api.Cmd{Kind: api.CmdCall, Var: v, Func: f}
	for range m.funcs[f].Params {
		c.Args = append(c.Args, m.value())
	}
	return c
}

func (m *programMaker) value() api.Expr { return m.expr(1 + m.draw(api.MaxExpr)) }

// expr of at most so many parts.
func (m *programMaker) expr(most int) api.Expr {
	switch n := m.draw(8); {
	case n >= 4 && most >= 3:
		left := 1 + m.draw(most-2)
		return api.Expr{Kind: api.ExprAdd + m.draw(7), Args: []api.Expr{m.expr(left), m.expr(most - 1 - left)}}
	case n == 3 && most >= 2:
		if v, ok := m.variable(true); ok {
			return api.Expr{Kind: api.ExprCell, N: v, Args: []api.Expr{m.expr(most - 1)}}
		}
	case n == 1 || n == 2:
		if v, ok := m.variable(false); ok {
			return api.Expr{Kind: api.ExprName, N: v}
		}
	}
	return api.Expr{Kind: api.ExprNumber, N: [...]int{0, 1, 2, 3, 4, -1, api.MaxNumber, -api.MaxNumber}[m.draw(8)]}
}
