package tree_test

import (
	"math"
	"math/rand"
	"strings"
	"testing"

	"hindsight/api"
	"hindsight/sample"
	"hindsight/tree"
)

var one = num(0, 1)

// sum: an expression of so many parts (an odd number).
func sum(parts int) api.TreeExpr {
	e := one
	for n := 1; n < parts; n += 2 {
		e = made(api.ExprAdd, 0, e, one)
	}
	return e
}

// cells: an expression of so many parts, each in the one ahead.
func cells(parts int) api.TreeExpr {
	e := one
	for range parts - 1 {
		e = api.TreeExpr{Kind: api.ExprCell, Name: "a", Args: []api.TreeExpr{e}}
	}
	return e
}

func show(e api.TreeExpr) api.TreeCmd { return api.TreeCmd{Kind: api.CmdPrint, Expr: e} }

func shows(n int) []api.TreeCmd {
	l := make([]api.TreeCmd, n)
	for i := range l {
		l[i] = show(one)
	}
	return l
}

// nest: commands so deep in one another, the innermost a print.
func nest(deep int, in func(l []api.TreeCmd) api.TreeCmd) []api.TreeCmd {
	l := shows(1)
	for range deep - 1 {
		l = []api.TreeCmd{in(l)}
	}
	return l
}

func inThen(l []api.TreeCmd) api.TreeCmd {
	return api.TreeCmd{Kind: api.CmdWhile, Expr: one, Then: l}
}

func inElse(l []api.TreeCmd) api.TreeCmd {
	return api.TreeCmd{Kind: api.CmdIf, Expr: one, Else: l}
}

// The commands of good, by what they are.
const (
	cSet = iota
	cPut
	cCall
	cRead
	cPrint
	cIf
	cWhile
)

// good: a tree with something of every kind.
func good() *api.Tree {
	return &api.Tree{Funcs: []api.TreeFunc{
		{
			Name:   "f",
			Params: []string{"a", "b"},
			Vars:   []api.TreeVar{{Name: "c"}, {Name: "d", Size: 4}},
			Cmds: []api.TreeCmd{
				{Kind: api.CmdSet, Name: "c", Expr: name(0, "a")},
				{Kind: api.CmdPut, Name: "d", Index: one, Expr: cells(2)},
				{Kind: api.CmdCall, Name: "c", Other: "f", Args: []api.TreeExpr{one, sum(3)}},
				{Kind: api.CmdRead, Name: "c"},
				{Kind: api.CmdPrint, Expr: sum(5)},
				{Kind: api.CmdIf, Expr: one, Then: shows(1), Else: shows(1)},
				{Kind: api.CmdWhile, Expr: one, Then: shows(1)},
			},
			Result: one,
		},
		{Vars: []api.TreeVar{{Name: "x"}}, Cmds: shows(2)},
	}}
}

type change struct {
	what string
	make func(t *api.Tree)
}

// onCmd: a change of one command of good.
func onCmd(what string, i int, f func(c *api.TreeCmd)) change {
	return change{what, func(t *api.Tree) { f(&t.Funcs[0].Cmds[i]) }}
}

// onPrinted: a change of what is printed.
func onPrinted(what string, e api.TreeExpr) change {
	return onCmd(what, cPrint, func(c *api.TreeCmd) { c.Expr = e })
}

func expect(t *testing.T, want api.Errno, l []change) {
	t.Helper()
	for _, c := range l {
		g := good()
		c.make(g)
		if e := tree.Check(*g); e != want {
			t.Errorf("%s: %d; want %d", c.what, e, want)
		}
	}
}

func TestB3Good(t *testing.T) {
	expect(t, api.OK, []change{
		{"nothing", func(t *api.Tree) {}},
		{"main alone", func(t *api.Tree) { t.Funcs = make([]api.TreeFunc, 1) }},
		{"empty lists", func(t *api.Tree) {
			t.Funcs = []api.TreeFunc{{Params: []string{}, Vars: []api.TreeVar{}, Cmds: []api.TreeCmd{}, Result: api.TreeExpr{Args: []api.TreeExpr{}}}}
		}},
		{"places that are none", func(t *api.Tree) {
			t.Funcs[0].At, t.Funcs[1].At, t.Funcs[1].Result.At = -7, 7, 9
			t.Funcs[0].Cmds[cRead].At, t.Funcs[0].Cmds[cRead].Expr.At, t.Funcs[0].Cmds[cSet].Index.At = -1, 5, math.MinInt
			t.Funcs[0].Result.At = math.MaxInt
		}},
		{"names twice, and none of them there", func(t *api.Tree) { t.Funcs[0].Params = []string{"f", "f", "f"} }},
		{"MaxFuncs", func(t *api.Tree) {
			f := t.Funcs[0]
			f.Cmds = nil
			t.Funcs = append([]api.TreeFunc{f, f, f, f}, t.Funcs...)
		}},
		{"MaxParams", func(t *api.Tree) { t.Funcs[0].Params = []string{"a", "b", "c"} }},
		{"no Params", func(t *api.Tree) { t.Funcs[0].Params = nil }},
		{"MaxVars", func(t *api.Tree) { t.Funcs[1].Vars = vars(6) }},
		{"Size MaxNumber", func(t *api.Tree) { t.Funcs[1].Vars[0].Size = api.MaxNumber }},
		{"MaxCmds", func(t *api.Tree) { t.Funcs[1].Cmds = shows(api.MaxCmds - 10) }},
		{"MaxDeep by Then", func(t *api.Tree) { t.Funcs[1].Cmds = nest(api.MaxDeep, inThen) }},
		{"MaxDeep by Else", func(t *api.Tree) { t.Funcs[1].Cmds = nest(api.MaxDeep, inElse) }},
		onCmd("MaxParams Args", cCall, func(c *api.TreeCmd) { c.Args = []api.TreeExpr{one, one, one} }),
		onCmd("no Args", cCall, func(c *api.TreeCmd) { c.Args = nil }),
		onCmd("MaxExpr in Args", cCall, func(c *api.TreeCmd) { c.Args = []api.TreeExpr{sum(15), sum(15), cells(15)} }),
		onCmd("MaxExpr in Index", cPut, func(c *api.TreeCmd) { c.Index, c.Expr = cells(15), sum(15) }),
		onCmd("no Then, no Else", cIf, func(c *api.TreeCmd) { c.Then, c.Else = nil, nil }),
		onCmd("Else alone", cIf, func(c *api.TreeCmd) { c.Then = nil }),
		onCmd("no Then", cWhile, func(c *api.TreeCmd) { c.Then = nil }),
		onPrinted("MaxNumber", num(0, api.MaxNumber)),
		onPrinted("-MaxNumber", num(0, -api.MaxNumber)),
		onPrinted("a name of MaxName", name(0, "abcdefghijk1")),
	})
}

func vars(n int) []api.TreeVar {
	l := make([]api.TreeVar, n)
	for i := range l {
		l[i].Name = "v"
	}
	return l
}

// tooMuch: changes of good by which something is too much.
func tooMuch() []change {
	return []change{
		{"functions", func(t *api.Tree) {
			f := t.Funcs[0]
			f.Cmds = nil
			t.Funcs = append([]api.TreeFunc{f, f, f, f, f}, t.Funcs...)
		}},
		{"Params", func(t *api.Tree) { t.Funcs[0].Params = []string{"a", "b", "c", "d"} }},
		{"Params of main", func(t *api.Tree) { t.Funcs[1].Params = []string{"a", "b", "c", "d"} }},
		{"Vars", func(t *api.Tree) { t.Funcs[0].Vars = vars(7) }},
		{"Vars of main", func(t *api.Tree) { t.Funcs[1].Vars = vars(7) }},
		{"commands", func(t *api.Tree) { t.Funcs[1].Cmds = shows(api.MaxCmds - 9) }},
		{"commands in others", func(t *api.Tree) { t.Funcs[1].Cmds = []api.TreeCmd{inThen(shows(20)), inElse(shows(9))} }},
		{"deep by Then", func(t *api.Tree) { t.Funcs[1].Cmds = nest(api.MaxDeep+1, inThen) }},
		{"deep by Else", func(t *api.Tree) { t.Funcs[1].Cmds = nest(api.MaxDeep+1, inElse) }},
		{"deep in one that can't have any", func(t *api.Tree) {
			t.Funcs[1].Cmds = nest(api.MaxDeep+1, func(l []api.TreeCmd) api.TreeCmd { return api.TreeCmd{Kind: api.CmdPrint, Expr: one, Else: l} })
		}},
		{"Result", func(t *api.Tree) { t.Funcs[0].Result = sum(17) }},
		{"Result of main", func(t *api.Tree) { t.Funcs[1].Result = cells(16) }},
		onCmd("Args", cCall, func(c *api.TreeCmd) { c.Args = []api.TreeExpr{one, one, one, one} }),
		onCmd("Args of a print", cPrint, func(c *api.TreeCmd) { c.Args = []api.TreeExpr{one, one, one, one} }),
		onCmd("parts of the last one of Args", cCall, func(c *api.TreeCmd) { c.Args = []api.TreeExpr{one, one, cells(16)} }),
		onCmd("parts of Index", cPut, func(c *api.TreeCmd) { c.Index = cells(16) }),
		onCmd("parts of Expr", cSet, func(c *api.TreeCmd) { c.Expr = made(api.ExprMul, 0, sum(7), cells(8)) }),
		onCmd("parts of an Expr that can't be there", cRead, func(c *api.TreeCmd) { c.Expr = cells(16) }),
		onPrinted("parts of no kind", api.TreeExpr{Args: make([]api.TreeExpr, 15)}),
		onCmd("parts in Then", cIf, func(c *api.TreeCmd) { c.Then[0].Expr = cells(16) }),
		onCmd("parts in Else", cIf, func(c *api.TreeCmd) { c.Else[0].Expr = cells(16) }),
	}
}

func TestB3Many(t *testing.T) {
	expect(t, api.ErrMany, tooMuch())
}

// TestB3ManyFirst: whatever form the tree has, and wherever it is wrong.
func TestB3ManyFirst(t *testing.T) {
	for _, c := range tooMuch() {
		expect(t, api.ErrMany, []change{{c.what + ", and a wrong form", func(t *api.Tree) {
			c.make(t)
			t.Funcs[0].Name = "!"
			t.Funcs[0].Vars = append([]api.TreeVar{{Size: -1}}, t.Funcs[0].Vars...)
			for i := range t.Funcs[0].Cmds {
				t.Funcs[0].Cmds[i].Kind = 0
			}
		}}})
	}
}

func TestB3Functions(t *testing.T) {
	expect(t, api.ErrForm, []change{
		{"no functions", func(t *api.Tree) { t.Funcs = nil }},
		{"no main", func(t *api.Tree) { t.Funcs = t.Funcs[:1] }},
		{"main ahead", func(t *api.Tree) { t.Funcs[0], t.Funcs[1] = t.Funcs[1], t.Funcs[0] }},
		{"two mains", func(t *api.Tree) { t.Funcs[0] = api.TreeFunc{} }},
		{"main with a name", func(t *api.Tree) { t.Funcs[1].Name = "main" }},
		{"main with Params", func(t *api.Tree) { t.Funcs[1].Params = []string{"a"} }},
		{"main with a Result", func(t *api.Tree) { t.Funcs[1].Result = one }},
		{"main with N of a Result", func(t *api.Tree) { t.Funcs[1].Result.N = 1 }},
		{"main with a Name of a Result", func(t *api.Tree) { t.Funcs[1].Result.Name = "x" }},
		{"main with Args of a Result", func(t *api.Tree) { t.Funcs[1].Result.Args = []api.TreeExpr{{}} }},
		{"no Result", func(t *api.Tree) { t.Funcs[0].Result = api.TreeExpr{} }},
		{"Size below 0", func(t *api.Tree) { t.Funcs[1].Vars[0].Size = -1 }},
		{"Size more than MaxNumber", func(t *api.Tree) { t.Funcs[0].Vars[1].Size = api.MaxNumber + 1 }},
		{"a wrong command of main", func(t *api.Tree) { t.Funcs[1].Cmds[1] = api.TreeCmd{} }},
	})
}

func TestB3Names(t *testing.T) {
	wrong := []string{"", "A", "1", "1a", "a b", " a", "a ", "a#", "a\n", "!", "==", "ä", "a_", "\x00", "abcdefghijklm", strings.Repeat("a", api.MaxText+1)}
	wrong = append(wrong, "func", "main", "var", "arr", "read", "print", "if", "else", "while", "return")
	for _, s := range wrong {
		expect(t, api.ErrForm, named(s))
	}
	for _, s := range []string{"a", "z9", "abcdefghijkl", "iff", "funcs", "e1se"} {
		expect(t, api.OK, named(s))
	}
}

// named: changes of good that put a name wherever one may stand.
func named(s string) []change {
	setName := func(c *api.TreeCmd) { c.Name = s }
	return []change{
		{"function " + s, func(t *api.Tree) { t.Funcs[0].Name = s }},
		{"parameter " + s, func(t *api.Tree) { t.Funcs[0].Params[1] = s }},
		{"variable " + s, func(t *api.Tree) { t.Funcs[0].Vars[0].Name = s }},
		{"array " + s, func(t *api.Tree) { t.Funcs[0].Vars[1].Name = s }},
		{"variable of main " + s, func(t *api.Tree) { t.Funcs[1].Vars[0].Name = s }},
		onCmd("CmdSet "+s, cSet, setName),
		onCmd("CmdPut "+s, cPut, setName),
		onCmd("CmdCall "+s, cCall, setName),
		onCmd("CmdRead "+s, cRead, setName),
		onCmd("Other "+s, cCall, func(c *api.TreeCmd) { c.Other = s }),
		onPrinted("ExprName "+s, name(0, s)),
		onPrinted("ExprCell "+s, api.TreeExpr{Kind: api.ExprCell, Name: s, Args: []api.TreeExpr{one}}),
	}
}

// TestB3Commands: each thing that a kind does not name, and each that it must have.
func TestB3Commands(t *testing.T) {
	names := map[int]string{cSet: "CmdSet", cPut: "CmdPut", cCall: "CmdCall", cRead: "CmdRead", cPrint: "CmdPrint", cIf: "CmdIf", cWhile: "CmdWhile"}
	for i, what := range names {
		for kind := -1; kind <= 9; kind++ {
			loose := i >= cPrint && kind >= api.CmdIf && kind <= api.CmdWhile // an if, or a while, needs no more than a print has
			if kind != i+1 && !loose {
				expect(t, api.ErrForm, []change{onCmd(what+" of another kind", i, func(c *api.TreeCmd) { c.Kind = kind })})
			}
		}
		put := func(field string, may bool, f func(c *api.TreeCmd)) {
			want := api.ErrForm
			if may {
				want = api.OK
			}
			expect(t, want, []change{onCmd(what+" with "+field, i, f)})
		}
		put("Name", i <= cRead, func(c *api.TreeCmd) { c.Name = "x" })
		put("Other", i == cCall, func(c *api.TreeCmd) { c.Other = "x" })
		put("Index", i == cPut, func(c *api.TreeCmd) { c.Index = one })
		put("Expr", i != cCall && i != cRead, func(c *api.TreeCmd) { c.Expr = one })
		put("Args", i == cCall, func(c *api.TreeCmd) { c.Args = []api.TreeExpr{one} })
		put("Then", i >= cIf, func(c *api.TreeCmd) { c.Then = shows(1) })
		put("Else", i == cIf, func(c *api.TreeCmd) { c.Else = shows(1) })
		put("no Name", i > cRead, func(c *api.TreeCmd) { c.Name = "" })
		put("no Other", i != cCall, func(c *api.TreeCmd) { c.Other = "" })
		put("no Index", i != cPut, func(c *api.TreeCmd) { c.Index = api.TreeExpr{} })
		put("no Expr", i == cCall || i == cRead, func(c *api.TreeCmd) { c.Expr = api.TreeExpr{} })
		put("N of an Index alone", false, func(c *api.TreeCmd) { c.Index = api.TreeExpr{N: 1} })
		put("Name of an Expr alone", false, func(c *api.TreeCmd) { c.Expr = api.TreeExpr{Name: "x"} })
		put("Args of an Index alone", false, func(c *api.TreeCmd) { c.Index = api.TreeExpr{Args: []api.TreeExpr{one}} })
		put("one of Args that is none", false, func(c *api.TreeCmd) { c.Args = []api.TreeExpr{{}} })
		put("one in Then that is none", false, func(c *api.TreeCmd) { c.Then = []api.TreeCmd{{}} })
		put("one in Else that is none", false, func(c *api.TreeCmd) { c.Else = []api.TreeCmd{{}} })
	}
}

func TestB3Expressions(t *testing.T) {
	x := name(0, "x")
	two := []api.TreeExpr{one, x}
	expect(t, api.ErrForm, []change{
		onPrinted("kind below 0", api.TreeExpr{Kind: -1}),
		onPrinted("kind 0", api.TreeExpr{}),
		onPrinted("kind 11", api.TreeExpr{Kind: 11}),
		onPrinted("kind 11 of two", api.TreeExpr{Kind: 11, Args: two}),
		onPrinted("N too great", num(0, api.MaxNumber+1)),
		onPrinted("N too small", num(0, -api.MaxNumber-1)),
		onPrinted("the least N", num(0, math.MinInt)),
		onPrinted("ExprNumber with a Name", api.TreeExpr{Kind: api.ExprNumber, Name: "x"}),
		onPrinted("ExprNumber with Args", api.TreeExpr{Kind: api.ExprNumber, Args: two[:1]}),
		onPrinted("ExprName with N", api.TreeExpr{Kind: api.ExprName, Name: "x", N: 1}),
		onPrinted("ExprName with Args", api.TreeExpr{Kind: api.ExprName, Name: "x", Args: two[:1]}),
		onPrinted("ExprCell with N", api.TreeExpr{Kind: api.ExprCell, Name: "x", N: -1, Args: two[:1]}),
		onPrinted("ExprCell without Args", api.TreeExpr{Kind: api.ExprCell, Name: "x"}),
		onPrinted("ExprCell with two Args", api.TreeExpr{Kind: api.ExprCell, Name: "x", Args: two}),
		onPrinted("ExprCell at none", api.TreeExpr{Kind: api.ExprCell, Name: "x", Args: make([]api.TreeExpr, 1)}),
	})
	for kind := api.ExprAdd; kind <= api.ExprSame; kind++ {
		expect(t, api.OK, []change{onPrinted("of two", made(kind, 0, two...))})
		expect(t, api.ErrForm, []change{
			onPrinted("of none", made(kind, 0)),
			onPrinted("of one", made(kind, 0, one)),
			onPrinted("of three", made(kind, 0, one, x, one)),
			onPrinted("of four", made(kind, 0, one, x, one, x)),
			onPrinted("with N", api.TreeExpr{Kind: kind, N: 1, Args: two}),
			onPrinted("with a Name", api.TreeExpr{Kind: kind, Name: "x", Args: two}),
			onPrinted("the first one wrong", made(kind, 0, api.TreeExpr{}, one)),
			onPrinted("the last one wrong", made(kind, 0, one, api.TreeExpr{})),
		})
	}
}

// spoilt: a tree that is wrong somewhere, or right in another way.
func spoilt(r *rand.Rand, t *api.Tree) {
	f := &t.Funcs[r.Intn(len(t.Funcs))]
	names := []string{"", "x", "if", "a b", "A", "x;"}
	s := names[r.Intn(len(names))]
	switch n := r.Intn(8); {
	case n == 0:
		f.Name = s
	case n == 1:
		f.Params = append(f.Params, s)
	case n == 2:
		f.Vars = append(f.Vars, api.TreeVar{Name: s, Size: r.Intn(3) - 1})
	case n == 3:
		spoiltExpr(r, &f.Result, s)
	case len(f.Cmds) > 0:
		spoiltCmd(r, &f.Cmds[r.Intn(len(f.Cmds))], s)
	}
}

func spoiltCmd(r *rand.Rand, c *api.TreeCmd, s string) {
	if len(c.Then) > 0 && r.Intn(2) == 0 {
		spoiltCmd(r, &c.Then[0], s)
		return
	}
	switch r.Intn(8) {
	case 0:
		c.Kind = r.Intn(9)
	case 1:
		c.Name = s
	case 2:
		c.Other = s
	case 3:
		spoiltExpr(r, &c.Index, s)
	case 4:
		spoiltExpr(r, &c.Expr, s)
	case 5:
		c.Args = append(c.Args, api.TreeExpr{Kind: r.Intn(3), Name: s})
	case 6:
		c.Then = append(c.Then, show(one))
	case 7:
		c.Else = append(c.Else, show(one))
	}
}

func spoiltExpr(r *rand.Rand, e *api.TreeExpr, s string) {
	if len(e.Args) > 0 && r.Intn(2) == 0 {
		spoiltExpr(r, &e.Args[0], s)
		return
	}
	switch r.Intn(6) {
	case 0:
		e.Kind = r.Intn(12)
	case 1:
		e.N = []int{0, 5, -5, api.MaxNumber + 1, -api.MaxNumber - 1}[r.Intn(5)]
	case 2:
		e.Name = s
	case 3:
		e.Args = append(e.Args, one)
	case 4:
		e.Args = nil
	case 5:
		e.At = r.Intn(9)
	}
}

// TestB4JustTreesOfTexts: OK is told just of trees that are parsed again from their text.
func TestB4JustTreesOfTexts(t *testing.T) {
	r := rand.New(rand.NewSource(44))
	count := map[api.Errno]int{}
	for range 6000 {
		u := sample.Tree(r.Intn)
		for range r.Intn(3) {
			spoilt(r, &u)
		}
		s, _ := printed(u, oneBlank)
		if len(s) > api.MaxText {
			continue
		}
		e := tree.Check(u)
		count[e]++
		got, at, f := tree.Parse(s)
		if back := f == api.OK && sameButAt(got, u); back != (e == api.OK) {
			t.Fatalf("Check(%v) = %d, but Parse(%q) = %v %d %d", u, e, s, got, at, f)
		}
		if f == api.OK && tree.Check(got) != api.OK {
			t.Fatalf("Check of what Parse(%q) answers: %d", s, tree.Check(got))
		}
	}
	if count[api.OK] < 500 || count[api.ErrForm] < 500 || count[api.ErrMany] < 20 {
		t.Errorf("too few of one answer: %v", count)
	}
}

// TestP1ListsInThemselves: Check ends whatever it is handed.
func TestP1ListsInThemselves(t *testing.T) {
	args := []api.TreeExpr{one, one}
	args[1] = made(api.ExprAdd, 0, args...)
	args[1].Args = args
	thens := []api.TreeCmd{{Kind: api.CmdWhile, Expr: one}}
	thens[0].Then = thens
	elses := []api.TreeCmd{{Kind: api.CmdIf, Expr: one}}
	elses[0].Else = elses
	for _, l := range [][]api.TreeCmd{{show(args[1])}, thens, elses} {
		if e := tree.Check(api.Tree{Funcs: []api.TreeFunc{{Cmds: l}}}); e != api.ErrMany {
			t.Errorf("%d; want ErrMany", e)
		}
	}
}

func TestP1DeepAndWide(t *testing.T) {
	for what, u := range map[string]api.Tree{
		"deep expression": {Funcs: []api.TreeFunc{{Cmds: []api.TreeCmd{show(cells(1 << 16))}}}},
		"wide expression": {Funcs: []api.TreeFunc{{Cmds: []api.TreeCmd{show(api.TreeExpr{Args: make([]api.TreeExpr, 1<<20)})}}}},
		"deep commands":   {Funcs: []api.TreeFunc{{Cmds: nest(1<<16, inThen)}}},
		"many commands":   {Funcs: []api.TreeFunc{{Cmds: make([]api.TreeCmd, 1<<16)}}},
		"many functions":  {Funcs: make([]api.TreeFunc, 1<<16)},
	} {
		if e := tree.Check(u); e != api.ErrMany {
			t.Errorf("%s: %d; want ErrMany", what, e)
		}
	}
}

func TestP2CheckOnlyReads(t *testing.T) {
	r := rand.New(rand.NewSource(55))
	for range 300 {
		u := sample.Tree(r.Intn)
		if r.Intn(2) == 0 {
			spoilt(r, &u)
		}
		room := append(u.Funcs, api.TreeFunc{Name: "spare"})
		u.Funcs = room[:len(room)-1]
		before := bare(u, true)
		e := tree.Check(u)
		if !same(u, before) || room[len(room)-1].Name != "spare" {
			t.Fatalf("Check changed %v to %v", before, u)
		}
		if f := tree.Check(u); e != f {
			t.Fatalf("Check(%v): first %d, then %d", u, e, f)
		}
	}
}
