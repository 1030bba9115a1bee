package scope_test

import (
	"math/rand"
	"reflect"
	"strings"
	"testing"

	"hindsight/api"
	"hindsight/sample"
	"hindsight/scope"
	"hindsight/show"
	"hindsight/tree"
)

// bare: a copy of a program, each list without elements nil.
func bare(v reflect.Value) reflect.Value {
	w := reflect.New(v.Type()).Elem()
	switch v.Kind() {
	case reflect.Struct:
		for i := range v.NumField() {
			w.Field(i).Set(bare(v.Field(i)))
		}
	case reflect.Slice:
		for i := range v.Len() {
			w.Set(reflect.Append(w, bare(v.Index(i))))
		}
	default:
		w.Set(v)
	}
	return w
}

func same(p, q api.Program) bool {
	return reflect.DeepEqual(bare(reflect.ValueOf(p)).Interface(), bare(reflect.ValueOf(q)).Interface())
}

// TestD2D3RandomPrograms: a program that was given names is resolved to what it was.
func TestD2D3RandomPrograms(t *testing.T) {
	r := rand.New(rand.NewSource(2))
	short := 0
	for range 1500 {
		want := sample.Program(r.Intn)
		u := sample.Named(r.Intn, want)
		got, at, e := scope.Resolve(u)
		if !same(got, want) || at != 0 || e != api.OK {
			t.Fatalf("Resolve(%v) = %v %d %d; want %v", u, got, at, e, want)
		}
		s, _ := show.Show(u)
		if len(s) > api.MaxText {
			continue
		}
		short++
		got, at, e = scope.Program(s)
		if !same(got, want) || at != 0 || e != api.OK {
			t.Fatalf("Program(%q) = %v %d %d; want %v", s, got, at, e, want)
		}
	}
	if short < 500 {
		t.Errorf("only %d texts were short enough", short)
	}
}

func TestD2D3Program(t *testing.T) {
	s := "func f(a, b) { arr t 3; var u; t[a] = b; u = f(b, -2); if u { u = read; } else { print t[u]; } return (a % t[0]); } main { var f; arr a 8; f = f(a[f], 5); while (f < 9) { f = (f + 1); } }"
	want := api.Program{Funcs: []api.Func{
		{
			Params: 2,
			Sizes:  []int{0, 0, 3, 0},
			Cmds: []api.Cmd{
				{Kind: api.CmdPut, Var: 2, Index: name(0), Expr: name(1)},
				{Kind: api.CmdCall, Var: 3, Func: 0, Args: []api.Expr{name(1), num(-2)}},
				{Kind: api.CmdIf, Expr: name(3), Then: []api.Cmd{{Kind: api.CmdRead, Var: 3}}, Else: []api.Cmd{print(cell(2, name(3)))}},
			},
			Result: made(api.ExprRest, name(0), cell(2, num(0))),
		},
		{
			Sizes: []int{0, 8},
			Cmds: []api.Cmd{
				{Kind: api.CmdCall, Args: []api.Expr{cell(1, name(0)), num(5)}},
				{Kind: api.CmdWhile, Expr: made(api.ExprLess, name(0), num(9)), Then: []api.Cmd{{Kind: api.CmdSet, Expr: made(api.ExprAdd, name(0), num(1))}}},
			},
		},
	}}
	got, at, e := scope.Program(s)
	if !same(got, want) || at != 0 || e != api.OK {
		t.Errorf("Program(%q) = %v %d %d; want %v", s, got, at, e, want)
	}
}

// expectAt: ^ marks where the error is told (and is no sign of the text); without one all is right.
func expectAt(t *testing.T, want api.Errno, l ...string) {
	t.Helper()
	for _, marked := range l {
		at := max(0, strings.Index(marked, "^"))
		s := strings.Replace(marked, "^", "", 1)
		p, to, e := scope.Program(s)
		if to != at || e != want || (len(p.Funcs) > 0) != (e == api.OK) {
			t.Errorf("Program(%q): %d functions, %d %d; want %d %d", s, len(p.Funcs), to, e, at, want)
		}
		u, _, f := tree.Parse(s)
		if f != api.OK {
			continue
		}
		q, to, e := scope.Resolve(u)
		if to != at || e != want || !same(p, q) {
			t.Errorf("Resolve of %q: %d functions, %d %d; want %d %d", s, len(q.Funcs), to, e, at, want)
		}
	}
}

func TestD2Twice(t *testing.T) {
	expectAt(t, api.ErrTwice,
		"func f() { return 1; } ^func f(a) { return 2; } main {}",
		"func f() { return 1; } func g() { return 1; } ^func f(b, b) { return x; } main {}",
		"^func f(a, a) { return 1; } main {}",
		"^func f(a, b, a) { return x; } main {}",
		"^func f(a) { var b; var a; return 1; } main {}",
		"^func f(a) { arr a 2; return 1; } main {}",
		"^func f() { var a; arr a 2; return 1; } main {}",
		"func f() { return 1; } ^main { var a; var b; var a; x = 1; }",
		"func f(a) { return a; } func g(a) { return a; } ^main { arr a 2; var a; }",
	)
	expectAt(t, api.OK,
		"func f(f) { return f; } func g(f) { var g; return g; } main { var f; arr g 2; f = f(f); f = g(f); }",
	)
}

func TestD2None(t *testing.T) {
	expectAt(t, api.ErrNone,
		"main { ^x = 1; }", "main { ^x[0] = 1; }", "main { ^x = read; }", "main { ^x = f(); }",
		"main { var x; x = ^y; }", "main { var x; x = ^y[0]; }", "main { var x; x = (1 + ^y); }", "main { var x; x = (x + (^y + z)); }",
		"main { print ^x; }", "main { if ^x { } }", "main { while ^x { } }", "main { arr a 1; a[^x] = y; }", "main { arr a 1; a[0] = ^y; }", "main { arr a 1; print a[a[^x]]; }",
		"main { if 1 { ^x = 1; } else { y = 1; } }", "main { if 1 { } else { ^y = 1; } }", "main { while 1 { while 1 { ^y = 1; } } x = 1; }",
		"func f() { return ^x; } main { var x; }", "func f(a) { ^x = a; return y; } main { var x; }", "func f(a) { return a; } main { print ^a; }",
		"main { var x; ^x = f(); }", "func f() { var x; ^x = g(); return x; } func g() { return 1; } main {}", "func f() { return 1; } main { ^f = f(); }", "func f() { return 1; } main { print ^f; }",
		"func f(a) { return a; } main { var x; x = f(^y); }", "func f(a, b) { return a; } main { var x; x = f(1, (2 + ^y)); }", "main { var x; ^x = x(); }",
	)
	expectAt(t, api.OK,
		"func f() { var x; x = f(); return x; } func g() { var x; x = f(); x = g(); return x; } main { var x; x = f(); x = g(); }",
	)
}

func TestD2Kind(t *testing.T) {
	expectAt(t, api.ErrKind,
		"main { arr a 2; ^a = 1; }", "main { arr a 2; ^a = read; }", "func f() { return 1; } main { arr a 2; ^a = f(); }",
		"main { var x; ^x[0] = 1; }", "func f(a) { ^a[0] = 1; return 1; } main {}",
		"main { arr a 2; print ^a; }", "main { var x; print ^x[0]; }", "main { arr a 2; print a[^a]; }", "main { arr a 2; a[^a] = 1; }", "main { arr a 2; a[0] = ^a; }",
		"func f(x) { return x; } main { var x; arr a 2; x = f(^a); }", "func f() { arr a 2; return ^a; } main {}", "func f(a) { return ^a[0]; } main {}",
		"main { arr a 2; if ^a { } }", "main { arr a 2; while (1 < ^a) { } }",
	)
}

func TestD2Form(t *testing.T) {
	expectAt(t, api.ErrForm,
		"func f() { return 1; } main { var x; ^x = f(1); }", "func f(a) { return 1; } main { var x; ^x = f(); }", "func f(a, b, c) { return 1; } main { var x; ^x = f(1, 2); }",
		"func f(a) { ^a = f(a, a); return a; } main {}", "func f(a) { var b; if 1 { ^b = f(); } return a; } main {}",
	)
}

// TestD2Order: of several errors the first one in the text is told; at one command Name, then Other, then ErrForm, then what stands in it.
func TestD2Order(t *testing.T) {
	expectAt(t, api.ErrNone,
		"func f(a) { return a; } main { ^x = f(y, z); }", "func f(a) { return a; } main { ^x = g(y, z); }", "main { var x; ^x = g(y, z); }",
		"main { ^x[y] = z; }", "main { arr a 2; a[^y] = a; }", "main { arr a 2; print (^y + a); }", "main { print (^a[b] + c[d]); }", "main { print ((1 + ^b) + c); }",
		"main { if ^x { y = 1; } else { z = 1; } }", "main { var x; if 1 { print ^y; } else { x[0] = 1; } x[0] = 1; }", "main { arr a 2; while 1 { print ^x; } a = 1; }",
		"func f() { print ^x; return y; } func f() { return 1; } main {}", "func f() { return ^y; } func g(a, a) { return 1; } main {}", "func f() { var x; if 1 { ^x = g(); } print z; return x; } func g() { return 1; } main {}",
		"main { arr a 9; print ^x; }",
	)
	expectAt(t, api.ErrKind,
		"func f(a) { return a; } main { arr x 2; ^x = f(); }", "main { arr x 2; ^x = f(); }", "main { var x; ^x[y] = z; }", "main { arr a 2; print (^a + y); }", "main { var x; print ^x[y]; }",
		"main { arr a 9; ^a = 1; }",
	)
	expectAt(t, api.ErrForm,
		"func f(a) { return a; } main { var x; ^x = f(y, z); }", "func f(a) { return a; } main { var x; ^x = f(); print y; }",
	)
	expectAt(t, api.ErrTwice,
		"^func f(a, a) { return x; } main { y = 1; }", "func f() { return 1; } ^func f() { return x; } main {}", "^main { var x; var x; print y; }",
		"^main { arr a 9; arr a 9; }",
	)
}

// TestD2CheckLast: an array may be greater in a tree than in a program.
func TestD2CheckLast(t *testing.T) {
	expectAt(t, api.ErrRange, "main { arr a 9; }", " func f(a) { arr b 9999999; b[a] = 1; return b[9]; } main { }")
	expectAt(t, api.OK, "main { arr a 8; arr b 1; }")
}

// TestD2StateFirst: a tree that is none has no names, and no places.
func TestD2StateFirst(t *testing.T) {
	text := "func f(a) { a = b; return (a + c); } func f(b, b) { return a; } main { while x { } }"
	for what, change := range map[string]func(u *api.Tree){
		"no functions":   func(u *api.Tree) { u.Funcs = nil },
		"too many":       func(u *api.Tree) { u.Funcs = append(u.Funcs, make([]api.TreeFunc, 9)...) },
		"no main":        func(u *api.Tree) { u.Funcs = u.Funcs[:2] },
		"a name":         func(u *api.Tree) { u.Funcs[2].Name = "main" },
		"a word":         func(u *api.Tree) { u.Funcs[0].Cmds[0].Name = "if" },
		"a kind":         func(u *api.Tree) { u.Funcs[0].Cmds[0].Kind = 0 },
		"a part":         func(u *api.Tree) { u.Funcs[0].Result.Args[1].Kind = 4 },
		"a Result":       func(u *api.Tree) { u.Funcs[2].Result.N = 1 },
		"a Size":         func(u *api.Tree) { u.Funcs[0].Vars = []api.TreeVar{{Name: "z", Size: -1}} },
		"itself in it":   func(u *api.Tree) { u.Funcs[0].Result.Args[0] = u.Funcs[0].Result },
		"commands in it": func(u *api.Tree) { c := u.Funcs[2].Cmds; c[0].Then = c },
	} {
		u, _, _ := tree.Parse(text)
		change(&u)
		p, at, e := scope.Resolve(u)
		if len(p.Funcs) != 0 || at != 0 || e != api.ErrState {
			t.Errorf("%s: %v %d %d; want 0 4", what, p, at, e)
		}
	}
}

// TestD2AnyPlaces: places are told as the tree has them, and don't say which one is first.
func TestD2AnyPlaces(t *testing.T) {
	u, _, _ := tree.Parse("func f(a) { a = f(b); return c; } func f() { return 1; } main {}")
	u.Funcs[0].At, u.Funcs[1].At = -1, -2
	u.Funcs[0].Cmds[0].At, u.Funcs[0].Cmds[0].Args[0].At, u.Funcs[0].Result.At = 77, 99, -3
	expect := func(at int, want api.Errno) {
		t.Helper()
		if p, to, e := scope.Resolve(u); len(p.Funcs) > 0 || to != at || e != want {
			t.Errorf("%d %d; want %d %d", to, e, at, want)
		}
	}
	expect(99, api.ErrNone)
	u.Funcs[0].Cmds[0].Args[0].Name = "a"
	expect(-3, api.ErrNone)
	u.Funcs[0].Result.Name = "a"
	expect(-2, api.ErrTwice)
	u.Funcs[0].Cmds[0].Args = nil
	expect(77, api.ErrForm)
	u.Funcs[0].Params = []string{"a", "a"}
	expect(-1, api.ErrTwice)
}

func TestD3ErrorsOfParse(t *testing.T) {
	expectAt(t, api.ErrForm, "^", "main { x = ^}", "main { x = y; } ^!", "main { x = 1; ^var x; }", "func f() { return 1; } main { x = f(1); ^return 1; }", "main { arr a ^0; }", "main { var x; var x; ^0")
	expectAt(t, api.ErrMany, "main { x = ^12345678; }", "main { var x; x = 1; ^abcdefghijklm = 1; }", "main {"+strings.Repeat(" x = y; ", 41)+"}", "main { x = f(1, 2, 3, 4); }", strings.Repeat(" ", api.MaxText+1))
}
