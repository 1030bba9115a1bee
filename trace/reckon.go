package trace

import (
	"hindsight/api"
	"hindsight/scope"
)

// The variables of the program by which an expression's form is told.
const (
	plainVar = iota
	arrayVar
	noVar
)

// formOf an expression: what Check of chapter 4 says of a program that prints it. Each variable is taken for one of two, for its form hangs on no more, and of vars there may be more than a program may have.
func formOf(e api.Expr, vars [][]int) api.Errno {
	left := api.MaxExpr
	main := api.Func{
		Sizes: []int{plainVar: 0, arrayVar: 1},
		Cmds:  []api.Cmd{{Kind: api.CmdPrint, Expr: renamed(e, vars, &left)}},
	}
	return scope.Check(api.Program{Funcs: []api.Func{main}})
}

// renamed: an expression with plainVar, arrayVar and noVar for its variables, and so many parts in it as are left: of one with too many just one too many, for it may have itself in it.
func renamed(e api.Expr, vars [][]int, left *int) api.Expr {
	f := api.Expr{Kind: e.Kind, N: e.N}
	if e.Kind == api.ExprName || e.Kind == api.ExprCell {
		f.N = kindOf(e.N, vars)
	}
	for _, a := range e.Args {
		if *left == 0 {
			break
		}
		*left--
		f.Args = append(f.Args, renamed(a, vars, left))
	}
	return f
}

func kindOf(n int, vars [][]int) int {
	switch {
	case n < 0 || n >= len(vars):
		return noVar
	case len(vars[n]) == 1:
		return plainVar
	}
	return arrayVar
}

// reckon what an expression of right form is, and how that ends.
func reckon(e api.Expr, vars [][]int) (int, int) {
	var args [2]int
	for i, a := range e.Args {
		value, how := reckon(a, vars)
		if how != api.EndDone {
			return 0, how
		}
		args[i] = value
	}
	switch e.Kind {
	case api.ExprNumber:
		return e.N, api.EndDone
	case api.ExprName:
		return vars[e.N][0], api.EndDone
	case api.ExprCell:
		if !isCell(args[0], vars[e.N]) {
			return 0, api.EndIndex
		}
		return vars[e.N][args[0]], api.EndDone
	}
	return join(e.Kind, args[0], args[1])
}

func isCell(n int, cells []int) bool { return n >= 0 && n < len(cells) }

// join two numbers by a kind of expressions.
func join(kind, a, b int) (int, int) {
	if (kind == api.ExprDiv || kind == api.ExprRest) && b == 0 {
		return 0, api.EndZero
	}
	switch kind {
	case api.ExprAdd:
		a += b
	case api.ExprSub:
		a -= b
	case api.ExprMul:
		a *= b
	case api.ExprDiv:
		a /= b
	case api.ExprRest:
		a %= b
	case api.ExprLess:
		a = oneIf(a < b)
	case api.ExprSame:
		a = oneIf(a == b)
	}
	return int(int32(a)), api.EndDone
}

func oneIf(is bool) int {
	if is {
		return 1
	}
	return 0
}
