package code_test

import (
	"math/rand"
	"slices"
	"testing"

	"hindsight/api"
	"hindsight/code"
	"hindsight/sample"
	"hindsight/scope"
	"hindsight/trace"
	"hindsight/vm"
)

func compiled(t *testing.T, p api.Program) api.Code {
	t.Helper()
	c, e := code.Compile(p)
	if e != api.OK {
		t.Fatalf("Compile(%v): %d", p, e)
	}
	if e := code.Check(c); e != api.OK {
		t.Fatalf("Compile(%v): Check(%v): %d", p, c, e)
	}
	return c
}

// expectAlike: code runs as its program does.
func expectAlike(t *testing.T, p api.Program, in []int, fuel int) []api.Event {
	t.Helper()
	want, _ := trace.Run(p, in, fuel)
	c := compiled(t, p)
	l, ok, e := vm.Run(c, in, fuel)
	if !ok || e != api.OK {
		t.Fatalf("%v with %v and %d: its code %v goes astray: %d", p, in, fuel, c, e)
	}
	if !slices.Equal(l, want) {
		t.Fatalf("%v with %v and %d: its code %v does\n%v, not\n%v", p, in, fuel, c, l, want)
	}
	return l
}

func TestF2Texts(t *testing.T) {
	for _, s := range []string{
		"main {}",
		"main { var x; print x; }",
		"func twice(n) { return (n + n); } main { var x; arr a 2; x = read; a[1] = (x * 3); x = twice(a[1]); print x; }",
		"func fac(n) { var r; r = 1; if (1 < n) { r = fac((n - 1)); r = (r * n); } return r; } main { var x; x = fac(5); print x; x = fac(9); print x; }",
		"main { arr a 4; var i; while (i < 4) { a[i] = (i * i); i = (i + 1); } while (0 < i) { i = (i - 1); print a[i]; } }",
		"main { var x; var y; x = read; y = read; if (y == 0) { print -1; } else { print (x / y); print (x % y); } print (x / (y - y)); }",
		"func f(a, b) { arr t 3; t[a] = b; return t[(a + 1)]; } main { var x; x = f(0, 7); x = f(1, 8); x = f(2, 9); print x; }",
		"main { var x; while 1 { x = read; if x { print x; } else { x = (x - 1); } } }",
		"func g() { var x; x = g(); return x; } main { var y; print 1; y = g(); }",
		"func f(a, b, c) { return ((a - (b * 10)) - (c * 100)); } func g(a) { arr one 1; one[a] = 5; if a { } else { if one[0] { } } while 0 { } return one[a]; } main { var x; x = f(1, 2, 3); x = g(0); x = g(1); }",
		"func f() { return (1 / 0); } main { var x; if 1 { if 0 { print 1; } else { while (x < 3) { x = (x + 1); if (x == 2) { print x; } } } } else { print 5; } x = f(); }",
		"main { arr a 3; a[3] = (1 / 0); }",
		"main { arr a 3; a[(1 / 0)] = a[7]; }",
	} {
		p, _, e := scope.Program(s)
		if e != api.OK {
			t.Fatalf("%s: %d", s, e)
		}
		for _, in := range [][]int{nil, {7, 2, 0, 5}, {api.Least, -1}, {api.Most, 0, 1}} {
			for _, fuel := range []int{0, 1, 2, 3, 7, 30, api.MaxFuel} {
				expectAlike(t, p, in, fuel)
			}
		}
	}
}

func TestF2Programs(t *testing.T) {
	r := rand.New(rand.NewSource(1))
	ends := map[int]int{}
	for range 20000 {
		in := []int{r.Intn(3), r.Intn(9) - 4, api.Most, api.Least}
		l := expectAlike(t, sample.Program(r.Intn), in[:r.Intn(5)], []int{r.Intn(20), api.MaxFuel}[r.Intn(2)])
		ends[l[len(l)-1].Value]++
	}
	for how := api.EndDone; how <= api.EndDeep; how++ {
		if ends[how] < 50 {
			t.Errorf("only %d traces end with %d", ends[how], how)
		}
	}
}

// greatest: a program at all its limits, with all the code that it can ask for.
func greatest() api.Program {
	e := api.Expr{Kind: api.ExprNumber, N: -api.MaxNumber}
	for range api.MaxExpr / 2 {
		e = api.Expr{Kind: api.ExprSub, Args: []api.Expr{{Kind: api.ExprNumber, N: api.MaxNumber}, e}}
	}
	var p api.Program
	for range api.MaxFuncs - 1 {
		p.Funcs = append(p.Funcs, api.Func{Params: api.MaxParams, Sizes: make([]int, api.MaxParams+api.MaxVars), Result: e})
	}
	call := api.Cmd{Kind: api.CmdCall, Args: []api.Expr{e, e, e}}
	main := api.Func{Sizes: make([]int, api.MaxVars)}
	for range api.MaxCmds - 1 {
		main.Cmds = append(main.Cmds, call)
	}
	main.Cmds = []api.Cmd{{Kind: api.CmdWhile, Expr: e, Then: main.Cmds}}
	p.Funcs = append(p.Funcs, main)
	return p
}

// TestF2Greatest: code of a program is never too much, and never does too much.
func TestF2Greatest(t *testing.T) {
	p := greatest()
	if e := scope.Check(p); e != api.OK {
		t.Fatal(e)
	}
	expectAlike(t, p, nil, api.MaxFuel)
}

func TestF2Errors(t *testing.T) {
	for _, row := range []struct {
		p   api.Program
		why api.Errno
	}{
		{api.Program{}, api.ErrForm},
		{api.Program{Funcs: make([]api.Func, api.MaxFuncs+1)}, api.ErrMany},
		{api.Program{Funcs: []api.Func{{Params: -1}}}, api.ErrRange},
		{api.Program{Funcs: []api.Func{{Cmds: make([]api.Cmd, 1)}}}, api.ErrKind},
		{api.Program{Funcs: []api.Func{{Cmds: []api.Cmd{{Kind: api.CmdRead}}}}}, api.ErrNone},
	} {
		c, e := code.Compile(row.p)
		if e != row.why || len(c.Instrs)+len(c.First)+len(c.Sizes) > 0 {
			t.Errorf("Compile(%v): %v %d, not %d", row.p, c, e, row.why)
		}
	}
}

// TestF2AsChapter4: whatever a program is, its error is that of Check.
func TestF2AsChapter4(t *testing.T) {
	r := rand.New(rand.NewSource(2))
	for range 3000 {
		p := sample.Program(r.Intn)
		f := &p.Funcs[r.Intn(len(p.Funcs))]
		switch r.Intn(4) {
		case 0:
			f.Params += r.Intn(3) - 1
		case 1:
			f.Sizes = append(f.Sizes, r.Intn(10))
		case 2:
			if len(f.Cmds) > 0 {
				f.Cmds[0].Kind += r.Intn(3) - 1
			}
		}
		c, e := code.Compile(p)
		if e != scope.Check(p) {
			t.Fatalf("Compile(%v): %d", p, e)
		}
		if e != api.OK && len(c.First) > 0 {
			t.Fatalf("Compile(%v): %v %d", p, c, e)
		}
	}
}
