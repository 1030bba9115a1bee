package scope_test

import (
	"math"
	"math/rand"
	"testing"

	"hindsight/api"
	"hindsight/sample"
	"hindsight/scope"
)

func num(n int) api.Expr { return api.Expr{Kind: api.ExprNumber, N: n} }

func name(n int) api.Expr { return api.Expr{Kind: api.ExprName, N: n} }

func cell(n int, at api.Expr) api.Expr {
	return api.Expr{Kind: api.ExprCell, N: n, Args: []api.Expr{at}}
}

func made(kind int, args ...api.Expr) api.Expr { return api.Expr{Kind: kind, Args: args} }

// sum: an expression of so many parts (an odd number).
func sum(parts int) api.Expr {
	e := num(1)
	for n := 1; n < parts; n += 2 {
		e = made(api.ExprAdd, e, num(1))
	}
	return e
}

func print(e api.Expr) api.Cmd { return api.Cmd{Kind: api.CmdPrint, Expr: e} }

func prints(n int) []api.Cmd {
	l := make([]api.Cmd, n)
	for i := range l {
		l[i] = print(num(1))
	}
	return l
}

// nest: commands so deep in one another, the innermost a print.
func nest(deep int, in func(l []api.Cmd) api.Cmd) []api.Cmd {
	l := prints(1)
	for range deep - 1 {
		l = []api.Cmd{in(l)}
	}
	return l
}

func inThen(l []api.Cmd) api.Cmd { return api.Cmd{Kind: api.CmdWhile, Expr: num(1), Then: l} }

func inElse(l []api.Cmd) api.Cmd { return api.Cmd{Kind: api.CmdIf, Expr: num(1), Else: l} }

func inAnother(l []api.Cmd) api.Cmd { return api.Cmd{Kind: api.CmdRead, Else: l} }

// The commands of the first function of good, by what they are.
const (
	cSet = iota
	cPut
	cCall
	cRead
	cPrint
	cIf
	cWhile
)

// good: a program with something of every kind.
func good() *api.Program {
	return &api.Program{Funcs: []api.Func{
		{
			Params: 2,
			Sizes:  []int{0, 0, 0, 4},
			Cmds: []api.Cmd{
				{Kind: api.CmdSet, Var: 2, Expr: made(api.ExprSub, name(0), num(1))},
				{Kind: api.CmdPut, Var: 3, Index: name(0), Expr: cell(3, num(1))},
				{Kind: api.CmdCall, Var: 2, Func: 0, Args: []api.Expr{name(1), num(5)}},
				{Kind: api.CmdRead, Var: 2},
				{Kind: api.CmdPrint, Expr: num(7)},
				{Kind: api.CmdIf, Expr: name(0), Then: prints(1), Else: prints(1)},
				{Kind: api.CmdWhile, Expr: name(1), Then: prints(1)},
			},
			Result: made(api.ExprAdd, name(0), cell(3, made(api.ExprMul, name(1), num(2)))),
		},
		{
			Sizes:  []int{0},
			Cmds:   []api.Cmd{{Kind: api.CmdCall, Func: 0, Args: []api.Expr{num(1), name(0)}}, {Kind: api.CmdCall, Func: 1}},
			Result: name(0),
		},
		{
			Sizes: []int{0, 8},
			Cmds:  []api.Cmd{{Kind: api.CmdCall, Func: 1}, {Kind: api.CmdCall, Func: 0, Args: []api.Expr{num(1), cell(1, num(0))}}},
		},
	}}
}

type change struct {
	what string
	make func(p *api.Program)
}

// onCmd: a change of one command of the first function.
func onCmd(what string, i int, f func(c *api.Cmd)) change {
	return change{what, func(p *api.Program) { f(&p.Funcs[0].Cmds[i]) }}
}

// onPrinted: a change of what is printed there.
func onPrinted(what string, e api.Expr) change {
	return onCmd(what, cPrint, func(c *api.Cmd) { c.Expr = e })
}

func expect(t *testing.T, want api.Errno, l ...change) {
	t.Helper()
	for _, c := range l {
		p := good()
		c.make(p)
		if e := scope.Check(*p); e != want {
			t.Errorf("%s: %d; want %d", c.what, e, want)
		}
	}
}

func TestD1Good(t *testing.T) {
	more := func(n int) func(p *api.Program) {
		return func(p *api.Program) {
			for len(p.Funcs) < n {
				p.Funcs = append([]api.Func{{Result: num(0)}}, p.Funcs...)
				p.Funcs[len(p.Funcs)-1].Cmds, p.Funcs[len(p.Funcs)-2].Cmds, p.Funcs[len(p.Funcs)-3].Cmds = nil, nil, nil
			}
		}
	}
	expect(t, api.OK,
		change{"nothing", func(p *api.Program) {}},
		change{"main alone", func(p *api.Program) { p.Funcs = make([]api.Func, 1) }},
		change{"empty lists", func(p *api.Program) {
			p.Funcs = []api.Func{{Sizes: []int{}, Cmds: []api.Cmd{}, Result: api.Expr{Args: []api.Expr{}}}}
		}},
		change{"MaxFuncs", more(api.MaxFuncs)},
		change{"MaxCmds", func(p *api.Program) { p.Funcs[2].Cmds = prints(api.MaxCmds - 12) }},
		change{"MaxDeep by Then", func(p *api.Program) { p.Funcs[2].Cmds = nest(api.MaxDeep, inThen) }},
		change{"MaxDeep by Else", func(p *api.Program) { p.Funcs[2].Cmds = nest(api.MaxDeep, inElse) }},
		change{"MaxVars", func(p *api.Program) { p.Funcs[2].Sizes = []int{0, 8, 1, 0, 2, 7} }},
		change{"MaxParams and MaxVars", func(p *api.Program) {
			p.Funcs[1] = api.Func{Params: 3, Sizes: []int{0, 0, 0, 1, 2, 3, 4, 0, 8}, Result: name(2)}
			p.Funcs[2].Cmds = []api.Cmd{{Kind: api.CmdCall, Func: 1, Args: []api.Expr{num(1), num(2), num(3)}}}
		}},
		onCmd("no Then, no Else", cIf, func(c *api.Cmd) { c.Then, c.Else = nil, nil }),
		onCmd("MaxExpr in each", cPut, func(c *api.Cmd) { c.Index, c.Expr = sum(15), sum(15) }),
		onCmd("MaxExpr in Args", cCall, func(c *api.Cmd) { c.Args = []api.Expr{sum(15), sum(15)} }),
		onPrinted("MaxNumber", num(api.MaxNumber)),
		onPrinted("-MaxNumber", num(-api.MaxNumber)),
		onPrinted("an array at an array", cell(3, cell(3, name(2)))),
	)
}

func TestD1RandomPrograms(t *testing.T) {
	r := rand.New(rand.NewSource(1))
	for range 1000 {
		p := sample.Program(r.Intn)
		if e := scope.Check(p); e != api.OK {
			t.Fatalf("Check(%v) = %d", p, e)
		}
	}
}

// fault: a change that makes good wrong. Two of one spot can't be made both.
type fault struct {
	spot string
	want api.Errno
	change
}

// faults in the order in which they are told, if there are several.
func faults() []fault {
	var l []fault
	add := func(spot string, want api.Errno, what string, f func(p *api.Program)) {
		l = append(l, fault{spot, want, change{spot + " " + what, f}})
	}
	add("functions", api.ErrMany, "too many", func(p *api.Program) { p.Funcs = append(p.Funcs, make([]api.Func, 4)...) })
	add("commands", api.ErrMany, "too many", func(p *api.Program) { p.Funcs[1].Cmds = append(p.Funcs[1].Cmds, prints(29)...) })
	add("commands", api.ErrMany, "too deep", func(p *api.Program) { p.Funcs[1].Cmds = append(p.Funcs[1].Cmds, nest(6, inThen)...) })
	add("Params", api.ErrRange, "below 0", func(p *api.Program) { p.Funcs[0].Params = -1 })
	add("Params", api.ErrRange, "more than there are", func(p *api.Program) { p.Funcs[0].Params = math.MaxInt })
	add("Params", api.ErrMany, "more than MaxParams", func(p *api.Program) { p.Funcs[0].Params = 4 })
	add("Sizes", api.ErrMany, "more than MaxVars", func(p *api.Program) { p.Funcs[0].Sizes = append(p.Funcs[0].Sizes, 0, 0, 0, 0, 0) })
	add("Sizes 2", api.ErrRange, "below 0", func(p *api.Program) { p.Funcs[0].Sizes[2] = -1 })
	add("Sizes 2", api.ErrRange, "too great", func(p *api.Program) { p.Funcs[0].Sizes[2] = api.MaxSize + 1 })
	add("Sizes 1", api.ErrForm, "of a parameter", func(p *api.Program) { p.Funcs[0].Sizes[1] = 1 })
	l = append(l, putFaults()...)
	l = append(l, callFaults()...)
	l = append(l, ifFaults()...)
	l = append(l, resultFaults()...)
	add("Params of the last one", api.ErrForm, "are there", func(p *api.Program) { p.Funcs[2].Params = 1 })
	add("Func of the last one", api.ErrNone, "is itself", func(p *api.Program) { p.Funcs[2].Cmds[0].Func = 2 })
	add("Result of the last one", api.ErrForm, "is there", func(p *api.Program) { p.Funcs[2].Result = sum(17) })
	return l
}

func cmdFaults(spot string, i int) (func(part string, want api.Errno, what string, f func(c *api.Cmd)), *[]fault) {
	var l []fault
	return func(part string, want api.Errno, what string, f func(c *api.Cmd)) {
		c := onCmd(spot+" "+part+" "+what, i, f)
		l = append(l, fault{spot + part, want, c})
	}, &l
}

func putFaults() []fault {
	add, l := cmdFaults("CmdPut", cPut)
	add("Kind", api.ErrKind, "0", func(c *api.Cmd) { c.Kind = 0 })
	add("Kind", api.ErrKind, "8", func(c *api.Cmd) { c.Kind = 8 })
	add("Var", api.ErrNone, "below 0", func(c *api.Cmd) { c.Var = -1 })
	add("Var", api.ErrNone, "too great", func(c *api.Cmd) { c.Var = 4 })
	add("Var", api.ErrKind, "no array", func(c *api.Cmd) { c.Var = 2 })
	add("Func", api.ErrForm, "is there", func(c *api.Cmd) { c.Func = 1 })
	add("Args", api.ErrForm, "are there", func(c *api.Cmd) { c.Args = make([]api.Expr, 1) })
	add("Then", api.ErrForm, "is there", func(c *api.Cmd) { c.Then = make([]api.Cmd, 1) })
	add("Else", api.ErrForm, "is there", func(c *api.Cmd) { c.Else = make([]api.Cmd, 1) })
	add("Index", api.ErrMany, "too long", func(c *api.Cmd) { c.Index = sum(17) })
	add("Index", api.ErrKind, "is none", func(c *api.Cmd) { c.Index = api.Expr{} })
	add("Index", api.ErrNone, "names none", func(c *api.Cmd) { c.Index = name(4) })
	add("Expr", api.ErrMany, "too long", func(c *api.Cmd) { c.Expr = sum(17) })
	add("Expr", api.ErrKind, "is none", func(c *api.Cmd) { c.Expr = api.Expr{} })
	return *l
}

func callFaults() []fault {
	add, l := cmdFaults("CmdCall", cCall)
	add("Kind", api.ErrKind, "-1", func(c *api.Cmd) { c.Kind = -1 })
	add("Var", api.ErrNone, "too great", func(c *api.Cmd) { c.Var = math.MaxInt })
	add("Func", api.ErrNone, "below 0", func(c *api.Cmd) { c.Func = -1 })
	add("Func", api.ErrNone, "behind", func(c *api.Cmd) { c.Func = 1 })
	add("Func", api.ErrNone, "no function", func(c *api.Cmd) { c.Func = math.MaxInt })
	add("Var", api.ErrKind, "an array", func(c *api.Cmd) { c.Var = 3 })
	add("Index", api.ErrForm, "is there", func(c *api.Cmd) { c.Index.N = 1 })
	add("Expr", api.ErrForm, "is there", func(c *api.Cmd) { c.Expr.Args = make([]api.Expr, 20) })
	add("Then", api.ErrForm, "is there", func(c *api.Cmd) { c.Then = make([]api.Cmd, 1) })
	add("Args", api.ErrForm, "too many", func(c *api.Cmd) { c.Args = append(c.Args, num(1)) })
	add("Args 0", api.ErrMany, "too long", func(c *api.Cmd) { c.Args[0] = sum(17) })
	add("Args 0", api.ErrRange, "too great", func(c *api.Cmd) { c.Args[0] = num(api.MaxNumber + 1) })
	add("Args 1", api.ErrRange, "too small", func(c *api.Cmd) { c.Args[1] = num(-api.MaxNumber - 1) })
	add("Args 1", api.ErrMany, "too long", func(c *api.Cmd) { c.Args[1] = sum(17) })
	return *l
}

func ifFaults() []fault {
	add, l := cmdFaults("CmdIf", cIf)
	add("Var", api.ErrForm, "is there", func(c *api.Cmd) { c.Var = 1 })
	add("Expr", api.ErrKind, "is an array", func(c *api.Cmd) { c.Expr.N = 3 })
	add("Then Var", api.ErrForm, "is there", func(c *api.Cmd) { c.Then[0].Var = 1 })
	add("Then Expr", api.ErrRange, "too great", func(c *api.Cmd) { c.Then[0].Expr.N = math.MaxInt })
	add("Then Expr", api.ErrKind, "is none", func(c *api.Cmd) { c.Then[0].Expr.Kind = -3 })
	add("Else Kind", api.ErrKind, "is none", func(c *api.Cmd) { c.Else[0].Kind = 9 })
	add("Else Expr", api.ErrRange, "too small", func(c *api.Cmd) { c.Else[0].Expr.N = math.MinInt })
	return *l
}

func resultFaults() []fault {
	var l []fault
	add := func(spot string, want api.Errno, what string, f func(e *api.Expr)) {
		l = append(l, fault{"Result" + spot, want, change{"Result " + spot + " " + what, func(p *api.Program) { f(&p.Funcs[0].Result) }}})
	}
	add(" 1 0 1", api.ErrMany, "too long", func(e *api.Expr) { e.Args[1].Args[0].Args[1] = sum(11) })
	add(" Kind", api.ErrKind, "11", func(e *api.Expr) { e.Kind = 11 })
	add(" Args", api.ErrForm, "are three", func(e *api.Expr) { e.Args = append(e.Args, num(1)) })
	add(" N", api.ErrRange, "is there", func(e *api.Expr) { e.N = 1 })
	add(" 0 Args", api.ErrForm, "are there", func(e *api.Expr) { e.Args[0].Args = make([]api.Expr, 1) })
	add(" 0 N", api.ErrNone, "too great", func(e *api.Expr) { e.Args[0].N = 4 })
	add(" 0 N", api.ErrNone, "below 0", func(e *api.Expr) { e.Args[0].N = -1 })
	add(" 0 N", api.ErrKind, "is an array", func(e *api.Expr) { e.Args[0].N = 3 })
	add(" 1 Args", api.ErrForm, "are two", func(e *api.Expr) { e.Args[1].Args = append(e.Args[1].Args, num(1)) })
	add(" 1 N", api.ErrNone, "too great", func(e *api.Expr) { e.Args[1].N = 4 })
	add(" 1 N", api.ErrKind, "is no array", func(e *api.Expr) { e.Args[1].N = 2 })
	add(" 1 0 Kind", api.ErrKind, "0", func(e *api.Expr) { e.Args[1].Args[0].Kind = 0 })
	add(" 1 0 N", api.ErrRange, "is there", func(e *api.Expr) { e.Args[1].Args[0].N = -1 })
	add(" 1 0 0", api.ErrNone, "too great", func(e *api.Expr) { e.Args[1].Args[0].Args[0].N = 4 })
	add(" 1 0 1", api.ErrRange, "too great", func(e *api.Expr) { e.Args[1].Args[0].Args[1].N = api.MaxNumber + 1 })
	return l
}

func TestD1Faults(t *testing.T) {
	for _, f := range faults() {
		expect(t, f.want, f.change)
	}
}

// TestD1Order: of two that are wrong, the one that is named first is told.
func TestD1Order(t *testing.T) {
	l := faults()
	for j, second := range l {
		for _, first := range l[:j] {
			if first.spot == second.spot {
				continue
			}
			for _, both := range [][2]fault{{first, second}, {second, first}} {
				p := good()
				both[0].make(p)
				both[1].make(p)
				if e := scope.Check(*p); e != first.want {
					t.Errorf("%s, and %s: %d; want %d", first.what, second.what, e, first.want)
				}
			}
		}
	}
}

func TestD1Functions(t *testing.T) {
	expect(t, api.ErrForm,
		change{"no functions", func(p *api.Program) { p.Funcs = nil }},
		change{"an empty list", func(p *api.Program) { p.Funcs = []api.Func{} }},
		change{"Kind of a Result of the last one", func(p *api.Program) { p.Funcs[2].Result.Kind = 99 }},
		change{"N of it", func(p *api.Program) { p.Funcs[2].Result.N = -1 }},
		change{"Args of it", func(p *api.Program) { p.Funcs[2].Result.Args = make([]api.Expr, 1) }},
		change{"the last one is another one", func(p *api.Program) { p.Funcs = p.Funcs[:1] }},
	)
	expect(t, api.ErrMany,
		change{"7 functions", func(p *api.Program) { p.Funcs = make([]api.Func, api.MaxFuncs+1) }},
		change{"7 Sizes of the last one", func(p *api.Program) { p.Funcs[2].Sizes = make([]int, 7) }},
		change{"4 parameters", func(p *api.Program) { p.Funcs[1].Params, p.Funcs[1].Sizes = 4, make([]int, 10) }},
		change{"very many Sizes", func(p *api.Program) { p.Funcs[0].Sizes = make([]int, 1<<20) }},
		change{"41 commands", func(p *api.Program) { p.Funcs[2].Cmds = prints(api.MaxCmds - 11) }},
		change{"41 commands in others", func(p *api.Program) { p.Funcs[2].Cmds = []api.Cmd{inThen(prints(20)), inElse(prints(7))} }},
		change{"41 commands that can't be there", func(p *api.Program) { p.Funcs[2].Cmds = []api.Cmd{inAnother(make([]api.Cmd, 28))} }},
		change{"deep by Else", func(p *api.Program) { p.Funcs[2].Cmds = nest(api.MaxDeep+1, inElse) }},
		change{"deep in one that can't have any", func(p *api.Program) { p.Funcs[2].Cmds = nest(api.MaxDeep+1, inAnother) }},
	)
	expect(t, api.ErrRange,
		change{"Params of the last one", func(p *api.Program) { p.Funcs[2].Params = 3 }},
		change{"the least Params", func(p *api.Program) { p.Funcs[0].Params = math.MinInt }},
		change{"Params beyond MaxParams too", func(p *api.Program) { p.Funcs[0].Params = 5 }},
		change{"Size 9", func(p *api.Program) { p.Funcs[2].Sizes[1] = 9 }},
		change{"Size -1 of a parameter", func(p *api.Program) { p.Funcs[0].Sizes[0] = -1 }},
		change{"Size 9 of a parameter", func(p *api.Program) { p.Funcs[0].Sizes[1] = 9 }},
	)
	expect(t, api.ErrKind, change{"no Result", func(p *api.Program) { p.Funcs[0].Result = api.Expr{} }})
}

// TestD1Calls: which functions may be called where.
func TestD1Calls(t *testing.T) {
	for i := range 3 {
		for n := -1; n <= 3; n++ {
			want := api.ErrNone
			if n >= 0 && n <= i && n < 2 {
				want = api.OK
			}
			expect(t, want, change{"call", func(p *api.Program) {
				c := api.Cmd{Kind: api.CmdCall, Func: n}
				if n == 0 {
					c.Args = []api.Expr{num(1), num(2)}
				}
				p.Funcs[i].Cmds = append(p.Funcs[i].Cmds, c)
			}})
		}
	}
	for n := range 5 {
		want := api.ErrForm
		if n == 2 {
			want = api.OK
		}
		expect(t, want, onCmd("Args", cCall, func(c *api.Cmd) {
			c.Args = nil
			for range n {
				c.Args = append(c.Args, num(1))
			}
		}))
	}
}

// TestD1Commands: each thing that a kind names, or does not name.
func TestD1Commands(t *testing.T) {
	for i, what := range []string{"CmdSet", "CmdPut", "CmdCall", "CmdRead", "CmdPrint", "CmdIf", "CmdWhile"} {
		put := func(field string, want api.Errno, f func(c *api.Cmd)) {
			t.Helper()
			expect(t, want, onCmd(what+" with "+field, i, f))
		}
		or := func(may bool, want api.Errno) api.Errno {
			if may {
				return api.OK
			}
			return want
		}
		if i <= cRead {
			put("a Var that is a parameter", or(i != cPut, api.ErrKind), func(c *api.Cmd) { c.Var = 0 })
			put("a Var that is an array", or(i == cPut, api.ErrKind), func(c *api.Cmd) { c.Var = 3 })
			put("a Var that is none", api.ErrNone, func(c *api.Cmd) { c.Var = 4 })
		} else {
			put("Var", api.ErrForm, func(c *api.Cmd) { c.Var = 2 })
			put("a Var below 0", api.ErrForm, func(c *api.Cmd) { c.Var = -1 })
		}
		if i != cCall {
			put("Func", api.ErrForm, func(c *api.Cmd) { c.Func = 1 })
			put("a Func below 0", api.ErrForm, func(c *api.Cmd) { c.Func = -1 })
			put("Args", api.ErrForm, func(c *api.Cmd) { c.Args = []api.Expr{num(1)} })
		}
		hasExpr := i != cCall && i != cRead
		put("Index", or(i == cPut, api.ErrForm), func(c *api.Cmd) { c.Index = num(0) })
		put("N of an Index alone", or(false, kindOr(i == cPut)), func(c *api.Cmd) { c.Index = api.Expr{N: 1} })
		put("Args of an Index alone", or(false, kindOr(i == cPut)), func(c *api.Cmd) { c.Index = made(0, num(1)) })
		put("no Index", or(i != cPut, api.ErrKind), func(c *api.Cmd) { c.Index = api.Expr{} })
		put("Expr", or(hasExpr, api.ErrForm), func(c *api.Cmd) { c.Expr = num(0) })
		put("N of an Expr alone", or(false, kindOr(hasExpr)), func(c *api.Cmd) { c.Expr = api.Expr{N: -1} })
		put("Args of an Expr alone", or(false, kindOr(hasExpr)), func(c *api.Cmd) { c.Expr = made(0, num(1)) })
		put("no Expr", or(!hasExpr, api.ErrKind), func(c *api.Cmd) { c.Expr = api.Expr{} })
		put("Then", or(i >= cIf, api.ErrForm), func(c *api.Cmd) { c.Then = prints(1) })
		put("Else", or(i == cIf, api.ErrForm), func(c *api.Cmd) { c.Else = prints(1) })
		put("a Then that is wrong", or(false, kindOr(i >= cIf)), func(c *api.Cmd) { c.Then = make([]api.Cmd, 1) })
		put("an Else that is wrong", or(false, kindOr(i == cIf)), func(c *api.Cmd) { c.Else = make([]api.Cmd, 1) })
	}
}

// kindOr: of something without a kind, that is named, or is not.
func kindOr(named bool) api.Errno {
	if named {
		return api.ErrKind
	}
	return api.ErrForm
}

func TestD1Expressions(t *testing.T) {
	for kind := api.ExprAdd; kind <= api.ExprSame; kind++ {
		expect(t, api.OK, onPrinted("of two", made(kind, num(1), name(2))))
		expect(t, api.ErrForm, onPrinted("of none", made(kind)), onPrinted("of one", made(kind, num(1))), onPrinted("of three", made(kind, num(1), num(1), num(1))))
		expect(t, api.ErrRange, onPrinted("with N", api.Expr{Kind: kind, N: 1, Args: []api.Expr{num(1), num(1)}}))
		expect(t, api.ErrNone, onPrinted("the last one wrong", made(kind, num(1), name(9))))
	}
	expect(t, api.ErrKind,
		onPrinted("kind -1", made(-1)), onPrinted("kind 0", made(0)), onPrinted("kind 11", made(11)), onPrinted("kind 11 of two", made(11, num(1), num(1))),
		onPrinted("an array as a variable", name(3)), onPrinted("a variable as an array", cell(2, num(1))), onPrinted("a parameter as an array", cell(1, num(1))),
		onPrinted("an array at an array", cell(3, name(3))))
	expect(t, api.ErrForm,
		onPrinted("a number of one", made(api.ExprNumber, num(1))), onPrinted("a name of one", made(api.ExprName, num(1))),
		onPrinted("a cell at none", api.Expr{Kind: api.ExprCell, N: 3}), onPrinted("a cell at two", api.Expr{Kind: api.ExprCell, N: 3, Args: []api.Expr{num(1), num(1)}}))
	expect(t, api.ErrMany,
		onPrinted("17 parts", sum(17)), onPrinted("16 parts", cell(3, sum(15))), onPrinted("16 parts of no kind", made(0, make([]api.Expr, 15)...)),
		onCmd("in Then", cWhile, func(c *api.Cmd) { c.Then[0].Expr = sum(17) }))
}

// TestP1ListsInThemselves: Check ends whatever it is handed.
func TestP1ListsInThemselves(t *testing.T) {
	args := []api.Expr{num(1), num(1)}
	args[1] = made(api.ExprAdd, args...)
	args[1].Args = args
	thens, elses := []api.Cmd{inThen(nil)}, []api.Cmd{inElse(nil)}
	thens[0].Then, elses[0].Else = thens, elses
	for _, l := range [][]api.Cmd{{print(args[1])}, thens, elses, nest(1<<16, inThen), make([]api.Cmd, 1<<16), {print(made(0, make([]api.Expr, 1<<20)...))}} {
		if e := scope.Check(api.Program{Funcs: []api.Func{{Cmds: l}}}); e != api.ErrMany {
			t.Errorf("%d; want ErrMany", e)
		}
	}
}
