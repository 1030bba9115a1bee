package sample

import (
	"hindsight/api"
	"hindsight/show"
)

// Text of a program, one that is not too long.
func Text(draw Draw) string {
	s, _ := show.Show(Named(draw, Program(draw)))
	if len(s) > api.MaxText {
		return "main {\n}\n"
	}
	return s
}

// Named: a tree of a program that passes Check of chapter 4, with names that are drawn; some functions have names that variables have.
func Named(draw Draw, p api.Program) api.Tree {
	n := namer{funcs: append(names(draw)[:len(p.Funcs)-1], "")}
	var t api.Tree
	for i, f := range p.Funcs {
		n.vars = names(draw)[:len(f.Sizes)]
		g := api.TreeFunc{At: draw(api.MaxText), Name: n.funcs[i], Params: n.vars[:f.Params]}
		for v := f.Params; v < len(f.Sizes); v++ {
			g.Vars = append(g.Vars, api.TreeVar{Name: n.vars[v], Size: f.Sizes[v]})
		}
		g.Cmds, g.Result = n.cmds(f.Cmds), n.expr(f.Result)
		t.Funcs = append(t.Funcs, g)
	}
	return t
}

// names, no two the same, in an order that is drawn.
func names(draw Draw) []string {
	l := []string{"a", "b", "c", "d", "x", "y", "z", "i1", "i2", "reads", "mains", "abcdefghijkl"}
	for i := range l {
		j := draw(i + 1)
		l[i], l[j] = l[j], l[i]
	}
	return l
}

// namer of programs: what Resolve does, the other way.
type namer struct{ funcs, vars []string }

func (n namer) cmds(l []api.Cmd) []api.TreeCmd {
	var m []api.TreeCmd
	for _, c := range l {
		d := api.TreeCmd{Kind: c.Kind, Index: n.expr(c.Index), Expr: n.expr(c.Expr), Args: n.exprs(c.Args), Then: n.cmds(c.Then), Else: n.cmds(c.Else)}
		if c.Kind <= api.CmdRead {
			d.Name = n.vars[c.Var]
		}
		if c.Kind == api.CmdCall {
			d.Other = n.funcs[c.Func]
		}
		m = append(m, d)
	}
	return m
}

func (n namer) exprs(l []api.Expr) []api.TreeExpr {
	var m []api.TreeExpr
	for _, e := range l {
		m = append(m, n.expr(e))
	}
	return m
}

func (n namer) expr(e api.Expr) api.TreeExpr {
	if e.Kind == api.ExprName || e.Kind == api.ExprCell {
		return api.TreeExpr{Kind: e.Kind, Name: n.vars[e.N], Args: n.exprs(e.Args)}
	}
	return api.TreeExpr{Kind: e.Kind, N: e.N, Args: n.exprs(e.Args)}
}
