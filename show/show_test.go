package show_test

import (
	"math/rand"
	"strings"
	"testing"

	"hindsight/api"
	"hindsight/sample"
	"hindsight/show"
	"hindsight/token"
	"hindsight/tree"
)

func parsed(t *testing.T, s string) api.Tree {
	t.Helper()
	u, at, e := tree.Parse(s)
	if e != api.OK {
		t.Fatalf("Parse(%q): %d %d", s, at, e)
	}
	return u
}

// TestC1Lines: a text without any layout, and how it is shown.
func TestC1Lines(t *testing.T) {
	for s, want := range map[string]string{
		"main{}": "main {\n}\n",
		"func twice(n){return(n+n);}main{var x;arr a 2;x=read;a[1]=(x*3);x=twice(a[1]);print x;}": `func twice(n) {
  return (n + n);
}
main {
  var x;
  arr a 2;
  x = read;
  a[1] = (x * 3);
  x = twice(a[1]);
  print x;
}
`,
		"func f(){return 0;}func g(a,b,c){arr d 9999999;var e;e=f();e=g(1,-2,(a+b));return-9999999;}main{}": `func f() {
  return 0;
}
func g(a, b, c) {
  arr d 9999999;
  var e;
  e = f();
  e = g(1, -2, (a + b));
  return -9999999;
}
main {
}
`,
		"main{if a{}if a{b=1;}else{}if(a==-1){}else{b=2;c=read;}while 1{}}": `main {
  if a {
  }
  if a {
    b = 1;
  }
  if (a == -1) {
  } else {
    b = 2;
    c = read;
  }
  while 1 {
  }
}
`,
		"main{while a[b[(c<1)]]{if x{while y{if z{print 1;}else{print 2;}print 3;}}else{print 4;}print 5;}}": `main {
  while a[b[(c < 1)]] {
    if x {
      while y {
        if z {
          print 1;
        } else {
          print 2;
        }
        print 3;
      }
    } else {
      print 4;
    }
    print 5;
  }
}
`,
		"main{print(((a+b)-(c*d))/((e%f)<(g==h)));print(1-(-1- -2));}": `main {
  print (((a + b) - (c * d)) / ((e % f) < (g == h)));
  print (1 - (-1 - -2));
}
`,
	} {
		got, e := show.Show(parsed(t, s))
		if got != want || e != api.OK {
			t.Errorf("Show of %q: %d\n%swant\n%s", s, e, got, want)
		}
	}
}

// layout of tokens, by what stands beside what alone.
func layout(l []api.Token) string {
	s, deep := "", 0
	for i, t := range l {
		last, next := "", ""
		if i > 0 {
			last = l[i-1].Text
		}
		if i+1 < len(l) {
			next = l[i+1].Text
		}
		if t.Text == "}" {
			deep--
		}
		if strings.HasSuffix(s, "\n") {
			s += strings.Repeat("  ", deep)
		}
		s += t.Text
		behindValue := i > 0 && (l[i-1].Kind != api.TokenSign || last == ")" || last == "]") && last != "return" && last != "print" && last != "while" && last != "if"
		switch {
		case t.Text == "{":
			deep++
			s += "\n"
		case t.Text == ";", t.Text == "}" && next != "else":
			s += "\n"
		case t.Text == "(", t.Text == "[", strings.Contains(")];,", next):
		case t.Text == "-" && !behindValue:
		case t.Kind == api.TokenName && next == "[":
		case t.Kind == api.TokenName && next == "(" && (last == "func" || last == "="):
		default:
			s += " "
		}
	}
	return s
}

// TestC1C3RandomTrees: the text is laid out as it must be, and parsed to the tree it was.
func TestC1C3RandomTrees(t *testing.T) {
	r := rand.New(rand.NewSource(3))
	short := 0
	for range 2000 {
		u := sample.Tree(r.Intn)
		s, e := show.Show(u)
		if e != api.OK {
			t.Fatalf("Show(%v): %d", u, e)
		}
		if len(s) > api.MaxText {
			continue
		}
		short++
		l, _, _ := token.Scan(s)
		if want := layout(l); s != want {
			t.Fatalf("Show:\n%swant\n%s", s, want)
		}
		if strings.Contains(strings.Join(strings.Fields(s), " "), "else { }") {
			t.Fatalf("an else that is none:\n%s", s)
		}
		v, at, e := tree.Parse(s)
		if at != 0 || e != api.OK || !show.Same(u, v) || !show.Same(v, u) {
			t.Fatalf("Parse(%q): %v %d %d; want %v", s, v, at, e, u)
		}
		again, e := show.Show(v)
		if again != s || e != api.OK {
			t.Fatalf("what is parsed is shown otherwise: %d\n%swant\n%s", e, again, s)
		}
	}
	if short < 500 {
		t.Errorf("only %d texts were short enough", short)
	}
}

// TestC1LongTexts: a text is shown however long it is.
func TestC1LongTexts(t *testing.T) {
	long := api.TreeExpr{Kind: api.ExprName, Name: "abcdefghijkl"}
	e := long
	for range 7 {
		e = api.TreeExpr{Kind: api.ExprSame, Args: []api.TreeExpr{e, long}}
	}
	var u api.Tree
	u.Funcs = make([]api.TreeFunc, 1)
	for range api.MaxCmds {
		u.Funcs[0].Cmds = append(u.Funcs[0].Cmds, api.TreeCmd{Kind: api.CmdPut, Name: "abcdefghijkl", Index: e, Expr: e})
	}
	shown := strings.Repeat("(", 7) + "abcdefghijkl" + strings.Repeat(" == abcdefghijkl)", 7)
	want := "main {\n" + strings.Repeat("  abcdefghijkl["+shown+"] = "+shown+";\n", api.MaxCmds) + "}\n"
	if s, e := show.Show(u); s != want || e != api.OK {
		t.Errorf("%d bytes, %d; want %d bytes", len(s), e, len(want))
	}
}

func TestC1Errors(t *testing.T) {
	for what, c := range map[string]struct {
		change func(u *api.Tree)
		want   api.Errno
	}{
		"nothing":          {func(u *api.Tree) {}, api.OK},
		"no functions":     {func(u *api.Tree) { u.Funcs = nil }, api.ErrForm},
		"no main":          {func(u *api.Tree) { u.Funcs = u.Funcs[:1] }, api.ErrForm},
		"7 functions":      {func(u *api.Tree) { u.Funcs = make([]api.TreeFunc, api.MaxFuncs+1) }, api.ErrMany},
		"a word as a name": {func(u *api.Tree) { u.Funcs[0].Name = "if" }, api.ErrForm},
		"a parameter":      {func(u *api.Tree) { u.Funcs[1].Params = []string{"a"} }, api.ErrForm},
		"a command":        {func(u *api.Tree) { u.Funcs[0].Cmds[0].Kind = 8 }, api.ErrForm},
		"no kind":          {func(u *api.Tree) { u.Funcs[0].Result.Kind = 11 }, api.ErrForm},
		"no Args":          {func(u *api.Tree) { u.Funcs[0].Result.Args = nil }, api.ErrForm},
		"a number":         {func(u *api.Tree) { u.Funcs[0].Cmds[0].Index.N = api.MaxNumber + 1 }, api.ErrForm},
		"a size":           {func(u *api.Tree) { u.Funcs[0].Vars[0].Size = -1 }, api.ErrForm},
		"variables":        {func(u *api.Tree) { u.Funcs[0].Vars = make([]api.TreeVar, api.MaxVars+1) }, api.ErrMany},
		"itself in it":     {func(u *api.Tree) { u.Funcs[0].Result.Args[0] = u.Funcs[0].Result }, api.ErrMany},
		"commands in them": {func(u *api.Tree) { c := u.Funcs[1].Cmds; c[0].Then = c }, api.ErrMany},
	} {
		u := parsed(t, "func f(a) { arr b 3; b[1] = a; return (a + 1); } main { while 1 { } }")
		c.change(&u)
		s, e := show.Show(u)
		if e != c.want || e != tree.Check(u) || (s == "") != (e != api.OK) {
			t.Errorf("%s: %q %d; want %d", what, s, e, c.want)
		}
	}
}
