package trace_test

import (
	"math"
	"math/big"
	"math/rand"
	"testing"

	"hindsight/api"
	"hindsight/scope"
	"hindsight/trace"
)

func num(n int) api.Expr { return api.Expr{Kind: api.ExprNumber, N: n} }

func name(n int) api.Expr { return api.Expr{Kind: api.ExprName, N: n} }

func cell(n int, at api.Expr) api.Expr {
	return api.Expr{Kind: api.ExprCell, N: n, Args: []api.Expr{at}}
}

func made(kind int, args ...api.Expr) api.Expr { return api.Expr{Kind: kind, Args: args} }

// sum: an expression of so many parts (an odd number), the last one of them e.
func sum(parts int, e api.Expr) api.Expr {
	for n := 1; n < parts; n += 2 {
		e = made(api.ExprAdd, num(1), e)
	}
	return e
}

// expect what Eval answers.
func expect(t *testing.T, e api.Expr, vars [][]int, value, how int, why api.Errno) {
	t.Helper()
	if v, h, w := trace.Eval(e, vars); v != value || h != how || w != why {
		t.Errorf("Eval(%v, %v): %d %d %d, not %d %d %d", e, vars, v, h, w, value, how, why)
	}
}

// edges: numbers at which something may go wrong.
func edges() []int {
	return []int{0, 1, -1, 2, -2, 3, -3, 7, -7, 46341, -46341, 65536, api.Most / 2, api.Most - 1, api.Most, api.Least + 1, api.Least}
}

// joined: two numbers made one, reckoned with numbers that know no bound; false, if that can't be.
func joined(kind int, a, b *big.Int) (*big.Int, bool) {
	n := new(big.Int)
	one := func(is bool) (*big.Int, bool) {
		if is {
			n.SetInt64(1)
		}
		return n, true
	}
	switch kind {
	case api.ExprLess:
		return one(a.Cmp(b) < 0)
	case api.ExprSame:
		return one(a.Cmp(b) == 0)
	case api.ExprAdd:
		n.Add(a, b)
	case api.ExprSub:
		n.Sub(a, b)
	case api.ExprMul:
		n.Mul(a, b)
	default:
		if b.Sign() == 0 {
			return n, false
		}
		// Quo and Rem go towards 0.
		if kind == api.ExprDiv {
			n.Quo(a, b)
		} else {
			n.Rem(a, b)
		}
	}
	over := big.NewInt(1 << 32)
	n.Mod(n.Sub(n, big.NewInt(api.Least)), over)
	return n.Add(n, big.NewInt(api.Least)), true
}

func TestE1Numbers(t *testing.T) {
	for kind := api.ExprAdd; kind <= api.ExprSame; kind++ {
		for _, a := range edges() {
			for _, b := range edges() {
				e := made(kind, name(1), name(0))
				n, ok := joined(kind, big.NewInt(int64(a)), big.NewInt(int64(b)))
				if !ok {
					expect(t, e, [][]int{{b}, {a}}, 0, api.EndZero, api.OK)
					continue
				}
				expect(t, e, [][]int{{b}, {a}}, int(n.Int64()), api.EndDone, api.OK)
			}
		}
	}
	for _, n := range []int{0, 1, -1, api.MaxNumber, -api.MaxNumber} {
		expect(t, num(n), nil, n, api.EndDone, api.OK)
	}
	expect(t, made(api.ExprDiv, num(-7), num(2)), nil, -3, api.EndDone, api.OK)
	expect(t, made(api.ExprRest, num(-7), num(2)), nil, -1, api.EndDone, api.OK)
	expect(t, made(api.ExprRest, num(7), num(-2)), nil, 1, api.EndDone, api.OK)
	// 10^14 - 2*10^7 + 1, over 2^32
	expect(t, made(api.ExprMul, num(9999999), num(9999999)), nil, 256447233, api.EndDone, api.OK)
}

func TestE1Variables(t *testing.T) {
	vars := [][]int{{5}, {10, 11, 12}, {}, nil, {-6}}
	expect(t, name(0), vars, 5, api.EndDone, api.OK)
	expect(t, name(4), vars, -6, api.EndDone, api.OK)
	for i := range 3 {
		expect(t, cell(1, num(i)), vars, 10+i, api.EndDone, api.OK)
	}
	for _, i := range []int{-1, 3, api.MaxNumber, -api.MaxNumber} {
		expect(t, cell(1, num(i)), vars, 0, api.EndIndex, api.OK)
	}
	for _, i := range []int{-1, 0, 1} {
		expect(t, cell(2, num(i)), vars, 0, api.EndIndex, api.OK)
		expect(t, cell(3, num(i)), vars, 0, api.EndIndex, api.OK)
	}
	expect(t, cell(1, cell(1, made(api.ExprSub, name(0), num(5)))), [][]int{{5}, {2, 0, 7}}, 7, api.EndDone, api.OK)
}

// TestE1HowItEnds: the first one that is met.
func TestE1HowItEnds(t *testing.T) {
	zero, index := made(api.ExprDiv, num(1), num(0)), cell(0, num(2))
	vars := [][]int{{0, 0}}
	for kind := api.ExprAdd; kind <= api.ExprSame; kind++ {
		expect(t, made(kind, zero, index), vars, 0, api.EndZero, api.OK)
		expect(t, made(kind, index, zero), vars, 0, api.EndIndex, api.OK)
		expect(t, made(kind, num(0), zero), vars, 0, api.EndZero, api.OK)
		expect(t, made(kind, num(0), index), vars, 0, api.EndIndex, api.OK)
		expect(t, made(kind, index, num(0)), vars, 0, api.EndIndex, api.OK)
	}
	expect(t, cell(0, zero), vars, 0, api.EndZero, api.OK)
	expect(t, cell(0, made(api.ExprRest, num(9), num(0))), vars, 0, api.EndZero, api.OK)
}

// TestE1Form: the errors of chapter 4, in their order.
func TestE1Form(t *testing.T) {
	vars := [][]int{{1}, {2, 3}, nil}
	for _, row := range []struct {
		e   api.Expr
		why api.Errno
	}{
		{api.Expr{}, api.ErrKind},
		{api.Expr{Kind: -1}, api.ErrKind},
		{api.Expr{Kind: 11, Args: []api.Expr{num(1), num(1)}}, api.ErrKind},
		{api.Expr{Kind: api.ExprNumber, Args: []api.Expr{num(1)}}, api.ErrForm},
		{api.Expr{Kind: api.ExprName, N: 9, Args: []api.Expr{num(1)}}, api.ErrForm},
		{api.Expr{Kind: api.ExprCell, N: 1}, api.ErrForm},
		{made(api.ExprAdd, num(1)), api.ErrForm},
		{made(api.ExprSame, num(1), num(1), num(1)), api.ErrForm},
		{num(api.MaxNumber + 1), api.ErrRange},
		{num(-api.MaxNumber - 1), api.ErrRange},
		{num(math.MinInt), api.ErrRange},
		{api.Expr{Kind: api.ExprLess, N: 1, Args: []api.Expr{num(1), num(1)}}, api.ErrRange},
		{name(3), api.ErrNone},
		{name(-1), api.ErrNone},
		{name(math.MaxInt), api.ErrNone},
		{name(math.MinInt), api.ErrNone},
		{cell(3, num(0)), api.ErrNone},
		{cell(-1, api.Expr{}), api.ErrNone},
		{name(1), api.ErrKind},
		{name(2), api.ErrKind},
		{cell(0, num(0)), api.ErrKind},
		{made(api.ExprDiv, made(api.ExprDiv, num(1), num(0)), name(5)), api.ErrNone},
		{made(api.ExprAdd, name(5), api.Expr{}), api.ErrNone},
		{made(api.ExprAdd, api.Expr{}, name(5)), api.ErrKind},
		{sum(api.MaxExpr, num(1)), api.OK},
		{sum(api.MaxExpr, name(3)), api.ErrNone},
		{sum(api.MaxExpr+2, num(1)), api.ErrMany},
		{sum(api.MaxExpr, cell(1, num(1))), api.ErrMany},
		{api.Expr{Kind: 99, Args: make([]api.Expr, api.MaxExpr-1)}, api.ErrKind},
		{api.Expr{Kind: 99, Args: make([]api.Expr, api.MaxExpr)}, api.ErrMany},
	} {
		if row.why != api.OK {
			expect(t, row.e, vars, 0, 0, row.why)
		} else if _, _, why := trace.Eval(row.e, vars); why != api.OK {
			t.Errorf("Eval(%v, %v): %d", row.e, vars, why)
		}
	}
	within := []api.Expr{{Kind: api.ExprCell, N: 1}}
	within[0].Args = within
	expect(t, within[0], vars, 0, 0, api.ErrMany)
}

// TestE1AnyVariables: there may be more of them, and with more cells, than in a program.
func TestE1AnyVariables(t *testing.T) {
	vars := make([][]int, 100)
	for i := range vars {
		vars[i] = make([]int, i)
		for j := range vars[i] {
			vars[i][j] = 1000*i + j
		}
	}
	expect(t, name(1), vars, 1000, api.EndDone, api.OK)
	for _, n := range []int{7, 8, 9, 10, 99} {
		expect(t, cell(n, num(n-1)), vars, 1000*n+n-1, api.EndDone, api.OK)
		expect(t, cell(n, num(n)), vars, 0, api.EndIndex, api.OK)
		expect(t, name(n), vars, 0, 0, api.ErrKind)
	}
	expect(t, name(100), vars, 0, 0, api.ErrNone)
	e := num(0)
	for n := 50; n < 57; n++ {
		e = made(api.ExprAdd, name(n), e)
		vars[n] = []int{1}
	}
	expect(t, e, vars, 7, api.EndDone, api.OK)
}

// TestE1Range: of any value, named or not; but the form is told first.
func TestE1Range(t *testing.T) {
	for _, n := range []int{api.Most + 1, api.Least - 1, math.MaxInt, math.MinInt} {
		for _, vars := range [][][]int{{{n}}, {{1}, {n}}, {{1}, {0, 0, n}}, {{1}, {n, 0}, nil}} {
			expect(t, num(1), vars, 0, 0, api.ErrRange)
			expect(t, name(0), vars, 0, 0, api.ErrRange)
			expect(t, made(api.ExprDiv, num(1), num(0)), vars, 0, 0, api.ErrRange)
			expect(t, name(7), vars, 0, 0, api.ErrNone)
			expect(t, cell(0, num(0)), vars, 0, 0, api.ErrKind)
			expect(t, sum(api.MaxExpr+2, num(1)), vars, 0, 0, api.ErrMany)
		}
	}
	expect(t, name(0), [][]int{{api.Most}, {api.Least, api.Most}}, api.Most, api.EndDone, api.OK)
	expect(t, name(0), [][]int{{api.Least}}, api.Least, api.EndDone, api.OK)
}

// TestE1AsChapter4: the form of whatever expression is that of a program that has it.
func TestE1AsChapter4(t *testing.T) {
	r := rand.New(rand.NewSource(1))
	var drawn func(deep int) api.Expr
	drawn = func(deep int) api.Expr {
		e := api.Expr{Kind: 1 + r.Intn(10), N: r.Intn(5)}
		if e.Kind >= api.ExprAdd && r.Intn(30) > 0 {
			e.N = 0
		}
		n := max(0, min(2, e.Kind-2))
		if r.Intn(30) == 0 {
			n, e.Kind = r.Intn(4), r.Intn(13)-1
		}
		for range n {
			if deep == 0 {
				e.Args = append(e.Args, num(1))
				continue
			}
			e.Args = append(e.Args, drawn(deep-1))
		}
		return e
	}
	found := map[api.Errno]int{}
	for range 20000 {
		e, vars, sizes := drawn(r.Intn(5)), [][]int{}, []int{}
		for range 1 + r.Intn(5) {
			size := []int{0, 0, 2, 8}[r.Intn(4)]
			sizes, vars = append(sizes, size), append(vars, make([]int, max(size, 1)))
		}
		main := api.Func{Sizes: sizes, Cmds: []api.Cmd{{Kind: api.CmdPrint, Expr: e}}}
		want := scope.Check(api.Program{Funcs: []api.Func{main}})
		found[want]++
		if _, _, why := trace.Eval(e, vars); why != want {
			t.Fatalf("Eval(%v, %v): %d, not %d", e, vars, why, want)
		}
	}
	for _, e := range []api.Errno{api.OK, api.ErrMany, api.ErrKind, api.ErrForm, api.ErrRange, api.ErrNone} {
		if found[e] < 50 {
			t.Errorf("only %d times %d", found[e], e)
		}
	}
}
