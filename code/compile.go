package code

import (
	"slices"

	"hindsight/api"
)

// compiler: the code so far, and how many commands it has.
type compiler struct {
	api.Code
	cmdsSoFar int
}

// put an instruction behind the others, and say where it is.
func (c *compiler) put(kind, a, b int) int {
	c.Instrs = append(c.Instrs, api.Instr{Kind: kind, A: a, B: b})
	return len(c.Instrs) - 1
}

// goHere from an instruction that was put when it was not known yet where it goes.
func (c *compiler) goHere(from int) { c.Instrs[from].A = len(c.Instrs) }

// function with its last instruction, so that behind each command there is one to go to.
func (c *compiler) function(f api.Func, isMain bool) {
	c.First = append(c.First, len(c.Instrs))
	c.Sizes = append(c.Sizes, slices.Clone(f.Sizes))
	c.cmds(f.Cmds)
	if isMain {
		c.put(api.CodeHalt, 0, 0)
		return
	}
	c.expr(f.Result)
	c.put(api.CodeBack, 0, 0)
}

func (c *compiler) cmds(l []api.Cmd) {
	for _, d := range l {
		c.cmd(d)
	}
}

func (c *compiler) cmd(d api.Cmd) {
	step := c.put(api.CodeStep, c.cmdsSoFar, 0)
	c.cmdsSoFar++
	switch d.Kind {
	case api.CmdSet:
		c.expr(d.Expr)
		c.put(api.CodeStore, d.Var, 0)
	case api.CmdPut:
		c.expr(d.Index)
		c.expr(d.Expr)
		c.put(api.CodePut, d.Var, 0)
	case api.CmdCall:
		for _, a := range d.Args {
			c.expr(a)
		}
		c.put(api.CodeCall, d.Func, len(d.Args))
		c.put(api.CodeStore, d.Var, 0)
	case api.CmdRead:
		c.put(api.CodeRead, d.Var, 0)
	case api.CmdPrint:
		c.expr(d.Expr)
		c.put(api.CodePrint, 0, 0)
	case api.CmdIf:
		c.choice(d)
	case api.CmdWhile:
		c.loop(d, step)
	}
}

func (c *compiler) choice(d api.Cmd) {
	c.expr(d.Expr)
	toElse := c.put(api.CodeZero, 0, 0)
	c.cmds(d.Then)
	toEnd := c.put(api.CodeGoto, 0, 0)
	c.goHere(toElse)
	c.cmds(d.Else)
	c.goHere(toEnd)
}

// loop: its step is done again each time that it looks.
func (c *compiler) loop(d api.Cmd, step int) {
	c.expr(d.Expr)
	toEnd := c.put(api.CodeZero, 0, 0)
	c.cmds(d.Then)
	c.put(api.CodeGoto, step, 0)
	c.goHere(toEnd)
}

// expr: its Args, then what is made of them.
func (c *compiler) expr(e api.Expr) {
	for _, a := range e.Args {
		c.expr(a)
	}
	switch e.Kind {
	case api.ExprNumber:
		c.put(api.CodeConst, e.N, 0)
	case api.ExprName:
		c.put(api.CodeLoad, e.N, 0)
	case api.ExprCell:
		c.put(api.CodeCell, e.N, 0)
	default:
		c.put(api.CodeOp, e.Kind, 0)
	}
}
