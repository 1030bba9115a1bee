package tree_test

import (
	"math/rand"
	"slices"
	"strings"
	"testing"

	"hindsight/api"
	"hindsight/sample"
	"hindsight/token"
	"hindsight/tree"
)

func num(at, n int) api.TreeExpr { return api.TreeExpr{Kind: api.ExprNumber, At: at, N: n} }

func name(at int, s string) api.TreeExpr {
	return api.TreeExpr{Kind: api.ExprName, At: at, Name: s}
}

func made(kind, at int, args ...api.TreeExpr) api.TreeExpr {
	return api.TreeExpr{Kind: kind, At: at, Args: args}
}

func TestB1Tree(t *testing.T) {
	s := "func f(a, b) { arr t 3; var u; t[-1] = (a % b); return t[0]; }\nmain { if (x == 1) { x = read; } else { x = f(2, y); } while x { print x; } y = - 7; }"
	want := api.Tree{Funcs: []api.TreeFunc{
		{
			Name:   "f",
			Params: []string{"a", "b"},
			Vars:   []api.TreeVar{{Name: "t", Size: 3}, {Name: "u"}},
			Cmds:   []api.TreeCmd{{Kind: api.CmdPut, At: 31, Name: "t", Index: num(33, -1), Expr: made(api.ExprRest, 39, name(40, "a"), name(44, "b"))}},
			Result: api.TreeExpr{Kind: api.ExprCell, At: 55, Name: "t", Args: []api.TreeExpr{num(57, 0)}},
		},
		{
			At: 63,
			Cmds: []api.TreeCmd{
				{
					Kind: api.CmdIf, At: 70, Expr: made(api.ExprSame, 73, name(74, "x"), num(79, 1)),
					Then: []api.TreeCmd{{Kind: api.CmdRead, At: 84, Name: "x"}},
					Else: []api.TreeCmd{{Kind: api.CmdCall, At: 103, Name: "x", Other: "f", Args: []api.TreeExpr{num(109, 2), name(112, "y")}}},
				},
				{
					Kind: api.CmdWhile, At: 118, Expr: name(124, "x"),
					Then: []api.TreeCmd{{Kind: api.CmdPrint, At: 128, Expr: name(134, "x")}},
				},
				{Kind: api.CmdSet, At: 139, Name: "y", Expr: num(143, -7)},
			},
		},
	}}
	got, at, e := tree.Parse(s)
	if !same(got, want) || at != 0 || e != api.OK {
		t.Errorf("Parse(%q) = %v %d %d; want %v", s, got, at, e, want)
	}
}

func TestB1Operators(t *testing.T) {
	for i, op := range []string{"+", "-", "*", "/", "%", "<", "=="} {
		got, _, e := tree.Parse("main{print(1" + op + "-2);}")
		if e != api.OK {
			t.Errorf("%s: %d", op, e)
			continue
		}
		if k := got.Funcs[0].Cmds[0].Expr.Kind; k != api.ExprAdd+i {
			t.Errorf("%s: kind %d", op, k)
		}
	}
}

func TestB1EmptyElseIsNone(t *testing.T) {
	with, _, e := tree.Parse("main { if x { } else { } }")
	without, _, f := tree.Parse("main { if x { } }")
	if e != api.OK || f != api.OK || !same(with, without) {
		t.Errorf("%v %d; %v %d", with, e, without, f)
	}
}

func TestB1Numbers(t *testing.T) {
	for s, want := range map[string]int{"0": 0, "9999999": 9999999, "-9999999": -9999999, "- 1": -1, "-#\n10": -10} {
		got, at, e := tree.Parse("main { print " + s + "; }")
		if e != api.OK || !sameExpr(got.Funcs[0].Cmds[0].Expr, num(13, want)) {
			t.Errorf("%s: %v %d %d", s, got, at, e)
		}
	}
}

func sameExpr(e, f api.TreeExpr) bool {
	return e.Kind == f.Kind && e.At == f.At && e.N == f.N && e.Name == f.Name && len(e.Args) == len(f.Args)
}

// randomGap: what may part two tokens.
func randomGap(r *rand.Rand) func() string {
	return func() string {
		return []string{" ", " ", " ", "\n", "\t", "#\n", "# if !\n"}[r.Intn(7)]
	}
}

func TestB1RandomTrees(t *testing.T) {
	r := rand.New(rand.NewSource(11))
	parsed := 0
	for range 2000 {
		s, want := printed(sample.Tree(r.Intn), randomGap(r))
		got, at, e := tree.Parse(s)
		if len(s) > api.MaxText {
			if at != 0 || e != api.ErrMany || len(got.Funcs) != 0 {
				t.Fatalf("a text of %d bytes: %d %d", len(s), at, e)
			}
			continue
		}
		parsed++
		if at != 0 || e != api.OK || !same(got, want) {
			t.Fatalf("Parse(%q) = %v %d %d; want %v", s, got, at, e, want)
		}
	}
	if parsed < 500 {
		t.Errorf("only %d texts were short enough", parsed)
	}
}

// TestB2Places: ^ marks where ErrForm is told (and is no sign of the text).
func TestB2Places(t *testing.T) {
	for _, marked := range []string{
		"^", " \n^", "# main {}^", "^x", "^;", "^var x;", "^print 1;", "^7", "^{ }",
		"main^", "main ^( ) {}", "main ^x {}", "main {^", "main { ^{ } }", "main { ^; }", "main {} ^}", "main {} ^x", "main {} ^main {}", "main {} ^func f() { return 1; }",
		"func^", "func ^main() { return 1; } main {}", "func ^1() { return 1; } main {}", "func f^", "func f ^{ return 1; } main {}",
		"func f(^", "func f(^, a) { return 1; } main {}", "func f(a^", "func f(a ^b) { return 1; } main {}", "func f(a, ^) { return 1; } main {}", "func f(^1) { return 1; } main {}", "func f(^var) { return 1; } main {}",
		"func f() ^return 1; main {}", "func f() { ^} main {}", "func f() { return ^; } main {}", "func f() { return 1 ^} main {}", "func f() { return 1; ^x = 1; } main {}", "func f() { return 1; }^", "func f() { return 1; } ^x", "func f() { return ^read",
		"main { var ^; }", "main { var x^", "main { var ^arr; }", "main { var x ^3; }", "main { var x ^, y; }", "main { arr a ^; }", "main { arr a ^0; }", "main { arr a ^-1; }", "main { arr a ^b; }", "main { arr ^3; }", "main { arr a 3^", "main { x = 1; ^var y; }", "main { if 1 { ^var y; } }",
		"main { x ^; }", "main { x ^1; }", "main { x ^read; }", "main { x ^y( ); }", "main { x[1] ^2; }", "main { x ^( ); }", "main { x ^== 1; }", "main { x = ^; }", "main { x = 1 ^}", "main { x = 1 ^+ 2; }", "main { x = read ^( ); }", "main { x = read^", "main { ^read; }", "main { ^return 1; }", "main { ^else { } }", "main { ^func }", "main { ^1 = 2; }",
		"main { x[^] = 1; }", "main { x[1 ^= 1; }", "main { x[1] ^; }", "main { x[1] = ^read; }", "main { x[1] = f^( ); }", "main { x[1 ^, 2] = 1; }",
		"main { x = f(^, 1); }", "main { x = f(1, ^); }", "main { x = f(1 ^2); }", "main { x = f( ) ^( ); }", "main { x = f( )^", "main { x = ^if( ); }", "main { x = f(^read); }", "main { x = f(g^( )); }", "main { x = 1 ^( ); }", "main { x = (f^(1) + 1); }", "main { x = y ^z; }",
		"main { print ^; }", "main { print ^print; }", "main { print 1 ^}", "main { print f^(1); }", "main { print ^read; }",
		"main { if ^{ } }", "main { if x ^y = 1; }", "main { if x { ^] }", "main { if x { } else ^if y { } }", "main { if x { } else { } ^else { } }", "main { if x { }^", "main { while x { } ^else { } }", "main { while x { ^return 1; } }", "main { while ^; }",
		"main { print (^); }", "main { print (1^); }", "main { print (1 ^1); }", "main { print (1 ^= 1); }", "main { print (1 ^, 1); }", "main { print (1 +^", "main { print (1 + ^); }", "main { print (1 + 1 ^+ 1); }", "main { print (1 + 1^", "main { print (1 ^[ 1); }",
		"main { print -^", "main { print - ^0; }", "main { print - ^x; }", "main { print - ^(1 + 1); }", "main { print - ^-1; }", "main { print 1 ^-1; }", "main { print (1 ^; }", "main { print ^+ 1; }", "main { print 1^[1]; }",
		"main { print a[^]; }", "main { print a[1^); }", "main { print a[1]^[2]; }", "main { print a[1^", "main { print a[1 ^, 2]; }", "main { print x # ;\n ^}", "main { print x #^",
	} {
		at := strings.Index(marked, "^")
		s := strings.Replace(marked, "^", "", 1)
		got, to, e := tree.Parse(s)
		if len(got.Funcs) != 0 || to != at || e != api.ErrForm {
			t.Errorf("Parse(%q): %d functions, %d %d; want none, %d 1", s, len(got.Funcs), to, e, at)
		}
	}
}

func TestB2WordsAreNoNames(t *testing.T) {
	for _, w := range []string{"func", "main", "var", "arr", "read", "print", "if", "else", "while", "return"} {
		for _, s := range []string{"func ^() { return 1; } main {}", "func f(^) { return 1; } main {}", "main { var ^; }", "main { arr ^ 1; }", "main { print ^; }", "main { print ^[1]; }", "main { x = f(^); }"} {
			at := strings.Index(s, "^")
			_, to, e := tree.Parse(strings.Replace(s, "^", w, 1))
			if to != at || e != api.ErrForm {
				t.Errorf("%s in %q: %d %d; want %d 1", w, s, to, e, at)
			}
			_, to, e = tree.Parse(strings.Replace(s, "^", w+"x", 1))
			if to != 0 || e != api.OK {
				t.Errorf("%sx in %q: %d %d; want 0 0", w, s, to, e)
			}
		}
	}
}

func TestB2ScanFirst(t *testing.T) {
	for _, c := range []struct {
		text string
		at   int
		want api.Errno
	}{
		{"main ( !", 7, api.ErrForm},
		{"main ( 01", 7, api.ErrForm},
		{"main ( 12345678", 7, api.ErrMany},
		{"} abcdefghijklm", 2, api.ErrMany},
		{"}" + strings.Repeat(" ", api.MaxText), 0, api.ErrMany},
		{"main {}" + strings.Repeat(" ", api.MaxText-7), 0, api.OK},
		{"main {}" + strings.Repeat(" ", api.MaxText-6), 0, api.ErrMany},
		{"main {" + strings.Repeat(" ", api.MaxText-6), api.MaxText, api.ErrForm},
	} {
		got, at, e := tree.Parse(c.text)
		if at != c.at || e != c.want || e != api.OK && len(got.Funcs) != 0 {
			t.Errorf("Parse(%.20q): %d functions, %d %d; want %d %d", c.text, len(got.Funcs), at, e, c.at, c.want)
		}
	}
}

// TestB2Brackets: an expression that stands in 60 brackets may stand there (but has too many parts then); one that would stand in more makes the bracket wrong.
func TestB2Brackets(t *testing.T) {
	round := func(n int) string { return strings.Repeat("(", n) }
	square := func(n int) string { return strings.Repeat("a[", n) }
	both := strings.Repeat("(a[", 30)
	for _, c := range []struct {
		text string
		at   int
		want api.Errno
	}{
		{"main{print " + round(60), 71, api.ErrForm},
		{"main{print " + round(61), 71, api.ErrForm},
		{"main{print " + round(60) + "1", 72, api.ErrForm},
		{"main{print " + round(60) + "1" + strings.Repeat("+1)", 60) + ";}", 0, api.ErrMany},
		{"main{print " + round(61) + "1" + strings.Repeat("+1)", 61) + ";}", 71, api.ErrForm},
		{"main{print " + square(60) + "a" + strings.Repeat("]", 60) + ";}", 0, api.ErrMany},
		{"main{print " + square(61) + "a" + strings.Repeat("]", 61) + ";}", 11 + 121, api.ErrForm},
		{"main{print " + both + "1", 11 + 91, api.ErrForm},
		{"main{print " + both + "(", 11 + 90, api.ErrForm},
		{"main{print " + both + "a[", 11 + 91, api.ErrForm},
		{"main{a[" + round(60), 7 + 59, api.ErrForm},
		{"main{x=f(" + round(60), 9 + 59, api.ErrForm},
		{"main{" + strings.Repeat("if 1{", 70) + "print " + round(61), 5 + 350 + 6 + 60, api.ErrForm},
		{"main{" + strings.Repeat("x=f(1);a[1]=(1+1);", 70) + "}", 0, api.ErrMany},
	} {
		_, at, e := tree.Parse(c.text)
		if at != c.at || e != c.want {
			t.Errorf("Parse(%q): %d %d; want %d %d", c.text, at, e, c.at, c.want)
		}
	}
}

func TestB2CheckLast(t *testing.T) {
	deep := func(n int) string { return strings.Repeat("if 1 {", n) + strings.Repeat("}", n) }
	funcs := func(n int) string { return strings.Repeat("func f() { return 1; }", n) }
	long := func(n int) string { return strings.Repeat("(", n) + "1" + strings.Repeat("+1)", n) }
	for _, c := range []struct {
		text string
		want api.Errno
	}{
		{funcs(5) + "main {}", api.OK},
		{funcs(6) + "main {}", api.ErrMany},
		{"func f(a, b, c) { return 1; } main {}", api.OK},
		{"func f(a, b, c, d) { return 1; } main {}", api.ErrMany},
		{"main { x = f(1, 2, 3); }", api.OK},
		{"main { x = f(1, 2, 3, 4); }", api.ErrMany},
		{"main {" + strings.Repeat("var x;", 6) + "}", api.OK},
		{"main {" + strings.Repeat("arr x 1;", 7) + "}", api.ErrMany},
		{"main {" + strings.Repeat("print 1;", 40) + "}", api.OK},
		{"main {" + strings.Repeat("print 1;", 41) + "}", api.ErrMany},
		{"main {" + deep(5) + "}", api.OK},
		{"main {" + deep(6) + "}", api.ErrMany},
		{"main {" + deep(900) + "}", api.ErrMany},
		{"main { print " + long(7) + "; }", api.OK},
		{"main { print a[" + long(7) + "]; }", api.ErrMany},
		{"main { a[" + long(7) + "] = " + long(7) + "; }", api.OK},
		{"main { a[" + long(8) + "] = 1; }", api.ErrMany},
	} {
		got, at, e := tree.Parse(c.text)
		if at != 0 || e != c.want || (e != api.OK) != (len(got.Funcs) == 0) {
			t.Errorf("Parse(%.60q): %d functions, %d %d; want 0 %d", c.text, len(got.Funcs), at, e, c.want)
		}
		_, at, e = tree.Parse(c.text + "}")
		if len(c.text) < api.MaxText && (at != len(c.text) || e != api.ErrForm) {
			t.Errorf("Parse(%.60q and more): %d %d; want %d 1, ahead of what Check says", c.text, at, e, len(c.text))
		}
	}
}

func randomTokenText(r *rand.Rand) string {
	l := strings.Fields("func main var arr read print if else while return x f 0 7 { } ( ) [ ] ; , = + - * / % < ==")
	return l[r.Intn(len(l))]
}

// changed: some of the tokens gone, changed, or others put between.
func changed(r *rand.Rand, l []string) []string {
	l = slices.Clone(l)
	for range r.Intn(3) {
		i := r.Intn(len(l) + 1)
		switch {
		case i == len(l) || r.Intn(3) == 0:
			l = slices.Insert(l, i, randomTokenText(r))
		case r.Intn(2) == 0:
			l = slices.Delete(l, i, i+1)
		default:
			l[i] = randomTokenText(r)
		}
	}
	if r.Intn(4) == 0 {
		l = l[:r.Intn(len(l)+1)]
	}
	return l
}

func TestB2AsTheGrammar(t *testing.T) {
	r := rand.New(rand.NewSource(22))
	for range 1500 {
		s, _ := printed(sample.Tree(r.Intn), oneBlank)
		tokens := changed(r, strings.Fields(s))
		s = strings.Join(tokens, " ")
		if len(s) > api.MaxText || len(tokens) > 400 {
			continue
		}
		_, at, e := tree.Parse(s)
		wrong := firstWrong(tokens)
		if wrong < 0 {
			if at != 0 || e != api.OK && e != api.ErrMany {
				t.Fatalf("Parse(%q): %d %d; it is a text", s, at, e)
			}
			continue
		}
		want := len(s)
		if l, _, _ := token.Scan(s); wrong < len(l) {
			want = l[wrong].At
		}
		if at != want || e != api.ErrForm {
			t.Fatalf("Parse(%q): %d %d; want %d 1", s, at, e, want)
		}
	}
}

// spoil the spare room of all lists: another list that shares it is seen to change.
func spoil(t api.Tree) {
	_ = append(t.Funcs, api.TreeFunc{Name: "spoilt"})
	for _, f := range t.Funcs {
		_ = append(f.Params, "spoilt")
		_ = append(f.Vars, api.TreeVar{Name: "spoilt"})
		spoilCmds(f.Cmds)
		spoilExpr(f.Result)
	}
}

func spoilCmds(l []api.TreeCmd) {
	_ = append(l, api.TreeCmd{Name: "spoilt"})
	for _, c := range l {
		_ = append(c.Args, api.TreeExpr{Name: "spoilt"})
		for _, e := range append([]api.TreeExpr{c.Index, c.Expr}, c.Args...) {
			spoilExpr(e)
		}
		spoilCmds(c.Then)
		spoilCmds(c.Else)
	}
}

func spoilExpr(e api.TreeExpr) {
	_ = append(e.Args, api.TreeExpr{Name: "spoilt"})
	for _, a := range e.Args {
		spoilExpr(a)
	}
}

func TestP2P3AnswersAreTheCallers(t *testing.T) {
	r := rand.New(rand.NewSource(33))
	for range 200 {
		s, _ := printed(sample.Tree(r.Intn), oneBlank)
		one, at, e := tree.Parse(s)
		two, to, f := tree.Parse(s)
		if !same(one, two) || at != to || e != f {
			t.Fatalf("Parse(%q) answers otherwise the second time", s)
		}
		spoil(one)
		if !same(one, two) {
			t.Fatalf("Parse(%q): two lists share memory", s)
		}
	}
}
