package tree_test

import (
	"reflect"

	"hindsight/api"
)

// bare: a copy of a tree, each list without elements nil; without At, if they don't count.
func bare(t api.Tree, at bool) api.Tree {
	var u api.Tree
	for _, f := range t.Funcs {
		g := api.TreeFunc{At: kept(f.At, at), Name: f.Name, Cmds: bareCmds(f.Cmds, at), Result: bareExpr(f.Result, at)}
		g.Params = append(g.Params, f.Params...)
		g.Vars = append(g.Vars, f.Vars...)
		u.Funcs = append(u.Funcs, g)
	}
	return u
}

func bareCmds(l []api.TreeCmd, at bool) []api.TreeCmd {
	var m []api.TreeCmd
	for _, c := range l {
		m = append(m, api.TreeCmd{
			Kind: c.Kind, At: kept(c.At, at), Name: c.Name, Other: c.Other,
			Index: bareExpr(c.Index, at), Expr: bareExpr(c.Expr, at), Args: bareExprs(c.Args, at),
			Then: bareCmds(c.Then, at), Else: bareCmds(c.Else, at),
		})
	}
	return m
}

func bareExprs(l []api.TreeExpr, at bool) []api.TreeExpr {
	var m []api.TreeExpr
	for _, e := range l {
		m = append(m, bareExpr(e, at))
	}
	return m
}

func bareExpr(e api.TreeExpr, at bool) api.TreeExpr {
	return api.TreeExpr{Kind: e.Kind, At: kept(e.At, at), N: e.N, Name: e.Name, Args: bareExprs(e.Args, at)}
}

func kept(n int, yes bool) int {
	if yes {
		return n
	}
	return 0
}

func same(t, u api.Tree) bool { return reflect.DeepEqual(bare(t, true), bare(u, true)) }

func sameButAt(t, u api.Tree) bool { return reflect.DeepEqual(bare(t, false), bare(u, false)) }
