package vm

import "hindsight/api"

// maxPile is how many things may be on a pile.
const maxPile = 64

// frame of a function: at, the command of its last step; next, the instruction that it goes on with.
type frame struct {
	number, at, next int
	pile             []int
	sizes            []int
	vars             map[int][]int
}

// cells of a variable that the function has, made when they are first asked for: it may have far more of them than are ever used.
func (f *frame) cells(v int) []int {
	if f.vars[v] == nil {
		f.vars[v] = make([]int, max(f.sizes[v], 1))
	}
	return f.vars[v]
}

func (f *frame) hasPlain(v int) bool { return v < len(f.sizes) && f.sizes[v] == 0 }

func (f *frame) hasArray(v int) bool { return v < len(f.sizes) && f.sizes[v] != 0 }

func (f *frame) push(n int) { f.pile = append(f.pile, n) }

func (f *frame) pop() int { return f.popAll(1)[0] }

// popAll: so many of the topmost ones, the lowest one first.
func (f *frame) popAll(n int) []int {
	rest := len(f.pile) - n
	l := f.pile[rest:]
	f.pile = f.pile[:rest]
	return l
}

// takes: how many things an instruction takes from the pile.
func takes(i api.Instr) int {
	switch i.Kind {
	case api.CodeCell, api.CodeStore, api.CodePrint, api.CodeZero, api.CodeBack:
		return 1
	case api.CodeOp, api.CodePut:
		return 2
	case api.CodeCall:
		return i.B
	}
	return 0
}
