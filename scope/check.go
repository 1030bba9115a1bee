package scope

import (
	"slices"

	"hindsight/api"
)

// refuseIf something of a program is wrong, which has no places.
func refuseIf(is bool, why api.Errno) { giveUpIf(is, 0, why) }

func checkProgram(p api.Program) {
	refuseIf(len(p.Funcs) == 0, api.ErrForm)
	refuseIf(len(p.Funcs) > api.MaxFuncs, api.ErrMany)
	n := 0
	for _, f := range p.Funcs {
		n = countCmds(f.Cmds, 1, n)
	}
	for i := range p.Funcs {
		c := checker{funcs: p.Funcs, now: i}
		c.head()
		c.cmds(p.Funcs[i].Cmds)
		c.result()
	}
}

// countCmds, which are so deep in others, n of them being ahead. It stops at the first one too many, for a list may have itself in it.
func countCmds(l []api.Cmd, deep, n int) int {
	for _, c := range l {
		n++
		refuseIf(n > api.MaxCmds || deep > api.MaxDeep, api.ErrMany)
		n = countCmds(c.Then, deep+1, n)
		n = countCmds(c.Else, deep+1, n)
	}
	return n
}

// countParts of an expression, likewise.
func countParts(e api.Expr, n int) int {
	n++
	refuseIf(n > api.MaxExpr, api.ErrMany)
	for _, a := range e.Args {
		n = countParts(a, n)
	}
	return n
}

// checker of one function of a program: those ahead of it have been checked.
type checker struct {
	funcs []api.Func
	now   int
}

func (c checker) isLast() bool { return c.now == len(c.funcs)-1 }

func (c checker) sizes() []int { return c.funcs[c.now].Sizes }

func (c checker) hasVar(n int) bool { return n >= 0 && n < len(c.sizes()) }

func (c checker) isArray(n int) bool { return c.sizes()[n] != 0 }

// mayCall: the last function is not called, by nobody.
func (c checker) mayCall(n int) bool { return n >= 0 && n <= c.now && n < len(c.funcs)-1 }

func (c checker) head() {
	f := c.funcs[c.now]
	beside := len(f.Sizes) - f.Params
	refuseIf(f.Params < 0 || beside < 0, api.ErrRange)
	refuseIf(f.Params > api.MaxParams || beside > api.MaxVars, api.ErrMany)
	refuseIf(slices.ContainsFunc(f.Sizes, func(n int) bool { return n < 0 || n > api.MaxSize }), api.ErrRange)
	refuseIf(slices.ContainsFunc(f.Sizes[:f.Params], func(n int) bool { return n != 0 }), api.ErrForm)
	refuseIf(c.isLast() && f.Params > 0, api.ErrForm)
}

func (c checker) result() {
	e := c.funcs[c.now].Result
	if c.isLast() {
		refuseIf(isThere(e), api.ErrForm)
		return
	}
	c.expr(e)
}

func (c checker) cmds(l []api.Cmd) {
	for _, d := range l {
		c.cmd(d)
		c.cmds(d.Then)
		c.cmds(d.Else)
	}
}

// cmd: by what it has itself, not by those in it.
func (c checker) cmd(d api.Cmd) {
	refuseIf(d.Kind < api.CmdSet || d.Kind > api.CmdWhile, api.ErrKind)
	hasVar, isCall := d.Kind <= api.CmdRead, d.Kind == api.CmdCall
	refuseIf(hasVar && !c.hasVar(d.Var), api.ErrNone)
	refuseIf(isCall && !c.mayCall(d.Func), api.ErrNone)
	refuseIf(hasVar && c.isArray(d.Var) != (d.Kind == api.CmdPut), api.ErrKind)
	refuseIf(hasMore(d), api.ErrForm)
	refuseIf(isCall && len(d.Args) != c.funcs[d.Func].Params, api.ErrForm)
	if d.Kind == api.CmdPut {
		c.expr(d.Index)
	}
	if !isCall && d.Kind != api.CmdRead {
		c.expr(d.Expr)
	}
	for _, e := range d.Args {
		c.expr(e)
	}
}

// hasMore than its kind names.
func hasMore(d api.Cmd) bool {
	return d.Kind > api.CmdRead && d.Var != 0 ||
		d.Kind != api.CmdCall && (d.Func != 0 || len(d.Args) > 0) ||
		d.Kind != api.CmdPut && isThere(d.Index) ||
		(d.Kind == api.CmdCall || d.Kind == api.CmdRead) && isThere(d.Expr) ||
		d.Kind < api.CmdIf && len(d.Then) > 0 ||
		d.Kind != api.CmdIf && len(d.Else) > 0
}

func isThere(e api.Expr) bool { return e.Kind != 0 || e.N != 0 || len(e.Args) > 0 }

func (c checker) expr(e api.Expr) {
	countParts(e, 0)
	c.part(e)
}

func (c checker) part(e api.Expr) {
	refuseIf(e.Kind < api.ExprNumber || e.Kind > api.ExprSame, api.ErrKind)
	refuseIf(len(e.Args) != argsOf(e.Kind), api.ErrForm)
	switch e.Kind {
	case api.ExprNumber:
		refuseIf(e.N < -api.MaxNumber || e.N > api.MaxNumber, api.ErrRange)
	case api.ExprName, api.ExprCell:
		refuseIf(!c.hasVar(e.N), api.ErrNone)
		refuseIf(c.isArray(e.N) != (e.Kind == api.ExprCell), api.ErrKind)
	default:
		refuseIf(e.N != 0, api.ErrRange)
	}
	for _, a := range e.Args {
		c.part(a)
	}
}

// argsOf: how many Args an expression of a kind must have.
func argsOf(kind int) int {
	switch kind {
	case api.ExprNumber, api.ExprName:
		return 0
	case api.ExprCell:
		return 1
	}
	return 2
}
