package code

import "hindsight/api"

func isWithin(n, least, most int) bool { return n >= least && n <= most }

func isIndex[T any](n int, l []T) bool { return isWithin(n, 0, len(l)-1) }

func checkInstr(c api.Code, i api.Instr) api.Errno {
	switch {
	case !isWithin(i.Kind, api.CodeStep, api.CodeHalt):
		return api.ErrKind
	case !isInRange(c, i):
		return api.ErrRange
	case i.A != 0 && !hasA(i.Kind) || i.B != 0 && i.Kind != api.CodeCall:
		return api.ErrForm
	}
	return api.OK
}

// isInRange: what its kind names.
func isInRange(c api.Code, i api.Instr) bool {
	switch i.Kind {
	case api.CodeConst:
		return isWithin(i.A, api.Least, api.Most)
	case api.CodeGoto, api.CodeZero:
		return isIndex(i.A, c.Instrs)
	case api.CodeOp:
		return isWithin(i.A, api.ExprAdd, api.ExprSame)
	case api.CodeCall:
		return isIndex(i.A, c.First) && isWithin(i.B, 0, api.MaxParams)
	}
	return !hasA(i.Kind) || i.A >= 0
}

func hasA(kind int) bool {
	return kind != api.CodePrint && kind != api.CodeBack && kind != api.CodeHalt
}
