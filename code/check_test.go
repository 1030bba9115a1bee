package code_test

import (
	"math"
	"testing"

	"hindsight/api"
	"hindsight/code"
)

// good: code with something of every kind, three functions.
func good() *api.Code {
	return &api.Code{
		Instrs: []api.Instr{
			{Kind: api.CodeStep, A: 3},
			{Kind: api.CodeConst, A: -7},
			{Kind: api.CodeLoad, A: 1},
			{Kind: api.CodeCell, A: 2},
			{Kind: api.CodeOp, A: api.ExprSub},
			{Kind: api.CodeStore, A: 1},
			{Kind: api.CodePut, A: 2},
			{Kind: api.CodeRead, A: 1},
			{Kind: api.CodePrint},
			{Kind: api.CodeGoto, A: 2},
			{Kind: api.CodeZero, A: 3},
			{Kind: api.CodeCall, A: 1, B: 2},
			{Kind: api.CodeBack},
			{Kind: api.CodeHalt},
		},
		First: []int{0, 12, 13},
		Sizes: [][]int{{0, 0, 4}, nil, {api.MaxSize, 0}},
	}
}

func expectCheck(t *testing.T, c api.Code, why api.Errno) {
	t.Helper()
	if e := code.Check(c); e != why {
		t.Errorf("Check(%v): %d, not %d", c, e, why)
	}
}

// fault of code: what is done to good, and the error that it is.
type fault struct {
	what string
	do   func(c *api.Code)
	why  api.Errno
}

// faults in the order in which they are told, up to those of instructions.
func faults() []fault {
	return []fault{
		{"many instructions", func(c *api.Code) { c.Instrs = append(c.Instrs, make([]api.Instr, api.MaxCode+1-len(c.Instrs))...) }, api.ErrMany},
		{"more First", func(c *api.Code) { c.First = append(c.First, 0) }, api.ErrForm},
		{"First beyond", func(c *api.Code) { c.First[1] = api.MaxCode + 99 }, api.ErrRange},
		{"Size beyond", func(c *api.Code) { c.Sizes[2][1] = api.MaxSize + 1 }, api.ErrRange},
		{"no kind", func(c *api.Code) { c.Instrs[1].Kind = 0 }, api.ErrKind},
		{"no number", func(c *api.Code) { c.Instrs[2].A = -1 }, api.ErrRange},
		{"B", func(c *api.Code) { c.Instrs[3].B = 1 }, api.ErrForm},
		{"no kind, behind", func(c *api.Code) { c.Instrs[4].Kind = api.CodeHalt + 1 }, api.ErrKind},
	}
}

func TestF1Good(t *testing.T) {
	expectCheck(t, *good(), api.OK)
	expectCheck(t, api.Code{Instrs: []api.Instr{{Kind: api.CodeHalt}}, First: []int{0}, Sizes: [][]int{nil}}, api.OK)
	// Check knows no names: functions may lie anywhere, and no variable need be there.
	expectCheck(t, api.Code{Instrs: []api.Instr{{Kind: api.CodeLoad, A: math.MaxInt}, {Kind: api.CodeCall, A: 1, B: 3}}, First: []int{1, 0, 1}, Sizes: make([][]int, 3)}, api.OK)
}

// TestF1Order: of two faults the one that is named first.
func TestF1Order(t *testing.T) {
	for i, a := range faults() {
		c := good()
		a.do(c)
		expectCheck(t, *c, a.why)
		for _, b := range faults()[i+1:] {
			c := good()
			b.do(c)
			a.do(c)
			if e := code.Check(*c); e != a.why {
				t.Errorf("%s, and %s: %d, not %d", a.what, b.what, e, a.why)
			}
		}
	}
}

func TestF1Head(t *testing.T) {
	all := func(n int) api.Code {
		c := api.Code{Instrs: make([]api.Instr, n), First: []int{0}, Sizes: [][]int{nil}}
		for i := range c.Instrs {
			c.Instrs[i].Kind = api.CodePrint
		}
		return c
	}
	expectCheck(t, all(api.MaxCode), api.OK)
	expectCheck(t, all(api.MaxCode+1), api.ErrMany)
	expectCheck(t, api.Code{Instrs: make([]api.Instr, api.MaxCode+1)}, api.ErrMany)
	expectCheck(t, api.Code{}, api.ErrForm)
	for _, row := range []struct {
		first []int
		sizes [][]int
		why   api.Errno
	}{
		{nil, nil, api.ErrForm},
		{[]int{0}, nil, api.ErrForm},
		{nil, make([][]int, 1), api.ErrForm},
		{[]int{0, 1}, make([][]int, 1), api.ErrForm},
		{[]int{0}, make([][]int, 2), api.ErrForm},
		{[]int{-1}, make([][]int, 2), api.ErrForm},
		{[]int{0, 14}, make([][]int, 2), api.ErrRange},
		{[]int{-1, 0}, make([][]int, 2), api.ErrRange},
		{[]int{math.MaxInt, 0}, make([][]int, 2), api.ErrRange},
		{[]int{13, 13}, [][]int{{0, 1, api.MaxSize}, {}}, api.OK},
		{[]int{13, 13}, [][]int{{0, -1}, {}}, api.ErrRange},
		{[]int{13, 13}, [][]int{{}, {api.MaxSize + 1}}, api.ErrRange},
		{[]int{13, 13}, [][]int{{}, {math.MinInt, 0}}, api.ErrRange},
	} {
		c := good()
		c.First, c.Sizes = row.first, row.sizes
		if len(c.Sizes) == 2 {
			c.Instrs[11].A = 1
		}
		expectCheck(t, *c, row.why)
	}
	c := good()
	c.Instrs = nil
	expectCheck(t, *c, api.ErrRange)
}

// TestF1Instructions: each kind with each A and B at an edge.
func TestF1Instructions(t *testing.T) {
	type from struct{ least, most int }
	none, any := from{}, from{0, math.MaxInt}
	names := map[int][2]from{
		api.CodeStep:  {any, none},
		api.CodeConst: {{api.Least, api.Most}, none},
		api.CodeLoad:  {any, none},
		api.CodeCell:  {any, none},
		api.CodeOp:    {{api.ExprAdd, api.ExprSame}, none},
		api.CodeStore: {any, none},
		api.CodePut:   {any, none},
		api.CodeRead:  {any, none},
		api.CodePrint: {none, none},
		api.CodeGoto:  {{0, 13}, none},
		api.CodeZero:  {{0, 13}, none},
		api.CodeCall:  {{0, 2}, {0, api.MaxParams}},
		api.CodeBack:  {none, none},
		api.CodeHalt:  {none, none},
	}
	edges := []int{math.MinInt, api.Least - 1, api.Least, -2, -1, 0, 1, 2, 3, 4, 5, 9, 10, 11, 12, 13, 14, 15, api.MaxCode, api.Most, api.Most + 1, math.MaxInt}
	for kind := -1; kind <= api.CodeHalt+1; kind++ {
		for _, a := range edges {
			for _, b := range edges {
				want := api.OK
				row, ok := names[kind]
				isOut := func(n int, f from) bool { return n < f.least || n > f.most }
				switch {
				case !ok:
					want = api.ErrKind
				case isOut(a, row[0]) && row[0] != none, isOut(b, row[1]) && row[1] != none:
					want = api.ErrRange
				case isOut(a, row[0]), isOut(b, row[1]):
					want = api.ErrForm
				}
				for _, i := range []int{0, 5, 13} {
					c := good()
					c.Instrs[i] = api.Instr{Kind: kind, A: a, B: b}
					expectCheck(t, *c, want)
				}
			}
		}
	}
}
