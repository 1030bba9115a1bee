package tree

import (
	"hindsight/api"
	"hindsight/token"
)

// isTooMuch: is there more of something than a tree may have? It stops counting there, for a list may have itself in it.
func isTooMuch(t api.Tree) bool {
	if len(t.Funcs) > api.MaxFuncs {
		return true
	}
	left := api.MaxCmds
	for _, f := range t.Funcs {
		if len(f.Params) > api.MaxParams || len(f.Vars) > api.MaxVars || isTooLong(f.Result) {
			return true
		}
		left = leftOfCmds(f.Cmds, 1, left)
		if left < 0 {
			return true
		}
	}
	return false
}

// leftOfCmds: of so many commands that there may be, how many are left behind these (which are so deep in others); below 0, if something is too much.
func leftOfCmds(l []api.TreeCmd, deep, left int) int {
	for _, c := range l {
		left--
		if left < 0 || deep > api.MaxDeep || isCmdTooLong(c) {
			return -1
		}
		left = leftOfCmds(c.Else, deep+1, leftOfCmds(c.Then, deep+1, left))
	}
	return left
}

// isCmdTooLong: by what the command has itself, not by those in it.
func isCmdTooLong(c api.TreeCmd) bool {
	if len(c.Args) > api.MaxParams || isTooLong(c.Index) || isTooLong(c.Expr) {
		return true
	}
	for _, e := range c.Args {
		if isTooLong(e) {
			return true
		}
	}
	return false
}

func isTooLong(e api.TreeExpr) bool { return leftOfParts(e, api.MaxExpr) < 0 }

// leftOfParts: of so many parts that an expression may have, how many are left behind this one; below 0, if it has more.
func leftOfParts(e api.TreeExpr, left int) int {
	left--
	for _, a := range e.Args {
		if left < 0 {
			return left
		}
		left = leftOfParts(a, left)
	}
	return left
}

// isWellFormed: does all that must be there stand there, and nothing else? (Of a tree that is not too much.)
func isWellFormed(t api.Tree) bool {
	for i, f := range t.Funcs {
		if !isFunc(f, i == len(t.Funcs)-1) {
			return false
		}
	}
	return len(t.Funcs) > 0
}

func isFunc(f api.TreeFunc, isMain bool) bool {
	if isMain && len(f.Params) > 0 {
		return false
	}
	for _, s := range f.Params {
		if !isName(s) {
			return false
		}
	}
	for _, v := range f.Vars {
		if !isName(v.Name) || v.Size < 0 || v.Size > api.MaxNumber {
			return false
		}
	}
	return nameFits(f.Name, !isMain) && cmdsFit(f.Cmds, true) && exprFits(f.Result, !isMain)
}

// fields of a command: which of them its kind names.
type fields struct{ name, other, index, expr, args, then, orElse bool }

func fieldsOf(kind int) (fields, bool) {
	switch kind {
	case api.CmdSet:
		return fields{name: true, expr: true}, true
	case api.CmdPut:
		return fields{name: true, index: true, expr: true}, true
	case api.CmdCall:
		return fields{name: true, other: true, args: true}, true
	case api.CmdRead:
		return fields{name: true}, true
	case api.CmdPrint:
		return fields{expr: true}, true
	case api.CmdIf:
		return fields{expr: true, then: true, orElse: true}, true
	case api.CmdWhile:
		return fields{expr: true, then: true}, true
	}
	return fields{}, false
}

func isCmd(c api.TreeCmd) bool {
	named, ok := fieldsOf(c.Kind)
	return ok &&
		nameFits(c.Name, named.name) && nameFits(c.Other, named.other) &&
		exprFits(c.Index, named.index) && exprFits(c.Expr, named.expr) &&
		argsFit(c.Args, named.args) &&
		cmdsFit(c.Then, named.then) && cmdsFit(c.Else, named.orElse)
}

// nameFits: is it a name, where one is named, and none elsewhere? The next ones likewise.
func nameFits(s string, named bool) bool {
	if !named {
		return s == ""
	}
	return isName(s)
}

func exprFits(e api.TreeExpr, named bool) bool {
	if !named {
		return e.Kind == 0 && e.N == 0 && e.Name == "" && len(e.Args) == 0
	}
	return isExpr(e)
}

func argsFit(l []api.TreeExpr, named bool) bool {
	for _, e := range l {
		if !isExpr(e) {
			return false
		}
	}
	return named || len(l) == 0
}

func cmdsFit(l []api.TreeCmd, named bool) bool {
	for _, c := range l {
		if !isCmd(c) {
			return false
		}
	}
	return named || len(l) == 0
}

func isExpr(e api.TreeExpr) bool {
	args, named := 0, false
	switch {
	case e.Kind == api.ExprNumber:
	case e.Kind == api.ExprName:
		named = true
	case e.Kind == api.ExprCell:
		args, named = 1, true
	case e.Kind >= api.ExprAdd && e.Kind <= api.ExprSame:
		args = 2
	default:
		return false
	}
	return len(e.Args) == args && nameFits(e.Name, named) && argsFit(e.Args, true) && numberFits(e)
}

func numberFits(e api.TreeExpr) bool {
	if e.Kind != api.ExprNumber {
		return e.N == 0
	}
	return -api.MaxNumber <= e.N && e.N <= api.MaxNumber
}

func isName(s string) bool {
	_, why := token.Join([]api.Token{{Kind: api.TokenName, Text: s}})
	return why == api.OK && !isWord(s)
}
