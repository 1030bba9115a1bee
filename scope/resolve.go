package scope

import "hindsight/api"

// resolver of a tree: which function, and which variable of the function that is gone through, has a name; and that function and those ahead of it, as far as they are done.
type resolver struct {
	funcNames, varNames map[string]int
	funcs               []api.Func
}

// resolved: the program of a tree that passes Check.
func resolved(t api.Tree) api.Program {
	r := resolver{funcNames: map[string]int{}}
	for _, f := range t.Funcs {
		r.function(f)
	}
	return api.Program{Funcs: r.funcs}
}

// number a name by how many there are already.
func number(names map[string]int, name string, at int) {
	_, twice := names[name]
	giveUpIf(twice, at, api.ErrTwice)
	names[name] = len(names)
}

func (r *resolver) function(f api.TreeFunc) {
	number(r.funcNames, f.Name, f.At)
	r.varNames = map[string]int{}
	g := api.Func{Params: len(f.Params)}
	for _, s := range f.Params {
		number(r.varNames, s, f.At)
		g.Sizes = append(g.Sizes, 0)
	}
	for _, v := range f.Vars {
		number(r.varNames, v.Name, f.At)
		g.Sizes = append(g.Sizes, v.Size)
	}
	// It is there ahead of its commands, for it may be called in itself.
	r.funcs = append(r.funcs, g)
	now := &r.funcs[len(r.funcs)-1]
	now.Cmds = each(f.Cmds, r.cmd)
	now.Result = r.expr(f.Result)
}

// cmd: what a kind does not name stays as it is: nothing.
func (r *resolver) cmd(c api.TreeCmd) api.Cmd {
	d := api.Cmd{Kind: c.Kind}
	if c.Kind <= api.CmdRead {
		d.Var = r.variable(c.Name, c.At, c.Kind == api.CmdPut)
	}
	if c.Kind == api.CmdCall {
		d.Func = r.called(c)
	}
	d.Index = r.expr(c.Index)
	d.Expr = r.expr(c.Expr)
	d.Args = each(c.Args, r.expr)
	d.Then = each(c.Then, r.cmd)
	d.Else = each(c.Else, r.cmd)
	return d
}

func (r *resolver) expr(e api.TreeExpr) api.Expr {
	f := api.Expr{Kind: e.Kind, N: e.N}
	if e.Kind == api.ExprName || e.Kind == api.ExprCell {
		f.N = r.variable(e.Name, e.At, e.Kind == api.ExprCell)
	}
	f.Args = each(e.Args, r.expr)
	return f
}

func (r *resolver) variable(name string, at int, isArray bool) int {
	n, ok := r.varNames[name]
	giveUpIf(!ok, at, api.ErrNone)
	now := r.funcs[len(r.funcs)-1]
	giveUpIf((now.Sizes[n] != 0) != isArray, at, api.ErrKind)
	return n
}

func (r *resolver) called(c api.TreeCmd) int {
	n, ok := r.funcNames[c.Other]
	giveUpIf(!ok, c.At, api.ErrNone)
	giveUpIf(len(c.Args) != r.funcs[n].Params, c.At, api.ErrForm)
	return n
}

// each thing made to another one.
func each[T, U any](l []T, made func(thing T) U) []U {
	var all []U
	for _, thing := range l {
		all = append(all, made(thing))
	}
	return all
}
