package trace_test

import (
	"math"
	"math/rand"
	"slices"
	"testing"

	"hindsight/api"
	"hindsight/sample"
	"hindsight/scope"
	"hindsight/trace"
)

// program of a text.
func program(t *testing.T, s string) api.Program {
	t.Helper()
	p, at, e := scope.Program(s)
	if e != api.OK {
		t.Fatalf("%s: %d at %d", s, e, at)
	}
	return p
}

// run what must run.
func run(t *testing.T, p api.Program, in []int, fuel int) []api.Event {
	t.Helper()
	l, e := trace.Run(p, in, fuel)
	if e != api.OK {
		t.Fatalf("Run(%v, %v, %d): %d", p, in, fuel, e)
	}
	return l
}

func step(frame, at int) api.Event { return api.Event{Kind: api.EventStep, Frame: frame, At: at} }

func write(frame, at, v, index, value int) api.Event {
	return api.Event{Kind: api.EventWrite, Frame: frame, At: at, Var: v, Index: index, Value: value}
}

func read(frame, at, value int) api.Event {
	return api.Event{Kind: api.EventRead, Frame: frame, At: at, Value: value}
}

func printed(frame, at, value int) api.Event {
	return api.Event{Kind: api.EventPrint, Frame: frame, At: at, Value: value}
}

func call(frame, at, f, made int) api.Event {
	return api.Event{Kind: api.EventCall, Frame: frame, At: at, Var: f, Value: made}
}

func back(frame, at, value int) api.Event {
	return api.Event{Kind: api.EventBack, Frame: frame, At: at, Value: value}
}

func end(frame, at, how int) api.Event {
	return api.Event{Kind: api.EventEnd, Frame: frame, At: at, Value: how}
}

func done() api.Event { return end(0, -1, api.EndDone) }

// expectTrace of a text.
func expectTrace(t *testing.T, s string, in []int, fuel int, want ...api.Event) {
	t.Helper()
	p := program(t, s)
	l := run(t, p, in, fuel)
	if !slices.Equal(l, want) {
		t.Errorf("%s\nwith %v and %d:\n%v, not\n%v", s, in, fuel, l, want)
	}
	if ok, e := trace.Right(p, want); !ok || e != api.OK {
		t.Errorf("Right(%s, %v): %v %d", s, want, ok, e)
	}
}

const example = `
func twice(n) {
  return (n + n);
}
main {
  var x;
  arr a 2;
  x = read;
  a[1] = (x * 3);
  x = twice(a[1]);
  print x;
}`

// TestE2Example: that of the document, in words there.
func TestE2Example(t *testing.T) {
	expectTrace(t, example, []int{5}, api.MaxFuel,
		step(0, 0), read(0, 0, 5), write(0, 0, 0, 0, 5),
		step(0, 1), write(0, 1, 1, 1, 15),
		step(0, 2), call(0, 2, 0, 1), write(1, 2, 0, 0, 15), back(1, 2, 30), write(0, 2, 0, 0, 30),
		step(0, 3), printed(0, 3, 30),
		done())
}

func TestE2Nothing(t *testing.T) {
	for _, fuel := range []int{0, 1, api.MaxFuel} {
		expectTrace(t, "main {}", nil, fuel, done())
		expectTrace(t, "func f() { print 1; return 0; } main { var x; arr a 3; }", []int{1, 2}, fuel, done())
	}
}

func TestE2Reads(t *testing.T) {
	const s = "main { var x; var y; y = read; x = read; y = read; }"
	expectTrace(t, s, []int{api.Most, api.Least}, 9,
		step(0, 0), read(0, 0, api.Most), write(0, 0, 1, 0, api.Most),
		step(0, 1), read(0, 1, api.Least), write(0, 1, 0, 0, api.Least),
		step(0, 2), read(0, 2, 0), write(0, 2, 1, 0, 0),
		done())
	expectTrace(t, s, []int{1, 2, 3, 4}, 2,
		step(0, 0), read(0, 0, 1), write(0, 0, 1, 0, 1),
		step(0, 1), read(0, 1, 2), write(0, 1, 0, 0, 2),
		end(0, 2, api.EndFuel))
}

// TestE2Numbered: commands one behind the other, those of all functions, each ahead of those in it, Then ahead of Else.
func TestE2Numbered(t *testing.T) {
	const s = `func f() { print 0; if 1 { print 2; } else { print 3; } return 4; }
func g(n) { while n { n = 0; } return n; }
main { var x; if 0 { print 7; if 1 { print 9; } else { print 10; print 11; } } else { if x { print 13; } else { print 14; } print 15; } x = g(1); print 17; x = f(); }`
	expectTrace(t, s, nil, api.MaxFuel,
		step(0, 6), step(0, 12), step(0, 14), printed(0, 14, 14), step(0, 15), printed(0, 15, 15),
		step(0, 16), call(0, 16, 1, 1), write(1, 16, 0, 0, 1),
		step(1, 4), step(1, 5), write(1, 5, 0, 0, 0), step(1, 4), back(1, 16, 0), write(0, 16, 0, 0, 0),
		step(0, 17), printed(0, 17, 17),
		step(0, 18), call(0, 18, 0, 2),
		step(2, 0), printed(2, 0, 0), step(2, 1), step(2, 2), printed(2, 2, 2), back(2, 18, 4), write(0, 18, 0, 0, 4),
		done())
}

// TestE2Fuel: how a trace ends with each number of steps; a CmdWhile that looks again takes one.
func TestE2Fuel(t *testing.T) {
	const s = "func f(n) { print n; return n; } main { var x; while (x < 2) { x = (x + 1); } x = f(5); }"
	whole := []api.Event{
		step(0, 1), step(0, 2), write(0, 2, 0, 0, 1), step(0, 1), step(0, 2), write(0, 2, 0, 0, 2), step(0, 1),
		step(0, 3), call(0, 3, 0, 1), write(1, 3, 0, 0, 5), step(1, 0), printed(1, 0, 5), back(1, 3, 5), write(0, 3, 0, 0, 5),
		done(),
	}
	steps := 0
	for i, x := range whole {
		if x.Kind != api.EventStep {
			continue
		}
		expectTrace(t, s, nil, steps, append(slices.Clone(whole[:i]), end(x.Frame, x.At, api.EndFuel))...)
		steps++
	}
	for fuel := steps; fuel < steps+3; fuel++ {
		expectTrace(t, s, nil, fuel, whole...)
	}
	forever := []api.Event{}
	for range api.MaxFuel {
		forever = append(forever, step(0, 0))
	}
	expectTrace(t, "main { while 1 { } }", nil, api.MaxFuel, append(forever, end(0, 0, api.EndFuel))...)
}

func TestE2Put(t *testing.T) {
	put := func(index, value string, want ...api.Event) {
		t.Helper()
		s := "main { arr one 1; arr a 3; a[0] = 4; one[0] = 5; a[" + index + "] = " + value + "; print (a[0] + one[0]); }"
		expectTrace(t, s, nil, api.MaxFuel, append([]api.Event{
			step(0, 0), write(0, 0, 1, 0, 4), step(0, 1), write(0, 1, 0, 0, 5), step(0, 2),
		}, want...)...)
	}
	put("2", "7", write(0, 2, 1, 2, 7), step(0, 3), printed(0, 3, 9), done())
	put("0", "7", write(0, 2, 1, 0, 7), step(0, 3), printed(0, 3, 12), done())
	put("one[0]", "1", end(0, 2, api.EndIndex))
	put("3", "7", end(0, 2, api.EndIndex))
	put("-1", "7", end(0, 2, api.EndIndex))
	// Index is reckoned ahead of Expr, and both are ahead of the cell.
	put("(1 / 0)", "a[9]", end(0, 2, api.EndZero))
	put("a[9]", "(1 / 0)", end(0, 2, api.EndIndex))
	put("3", "(1 / 0)", end(0, 2, api.EndZero))
	put("3", "(1 % 0)", end(0, 2, api.EndZero))
}

// TestE2Ends: where an expression does not end well, of each command that has one.
func TestE2Ends(t *testing.T) {
	for _, row := range []struct{ cmd, rest string }{
		{"x = ", ";"}, {"print ", ";"}, {"if ", " { print 1; } else { print 2; }"}, {"while ", " { print 1; }"}, {"x = f(1, ", ", (2 / 0));"}, {"x = f(", ", (2 / 0), 3);"},
	} {
		for how, wrong := range map[int]string{api.EndIndex: "a[2]", api.EndZero: "(1 / x)"} {
			if how == api.EndZero && row.rest[0] == ',' {
				continue
			}
			s := "func f(a, b, c) { return 0; } main { var x; arr a 2; print 8; " + row.cmd + wrong + row.rest + " print 9; }"
			expectTrace(t, s, nil, api.MaxFuel, step(0, 0), printed(0, 0, 8), step(0, 1), end(0, 1, how))
		}
	}
	expectTrace(t, "main { var x; x = 1; while (1 / x) { x = 0; } }", nil, api.MaxFuel,
		step(0, 0), write(0, 0, 0, 0, 1), step(0, 1), step(0, 2), write(0, 2, 0, 0, 0), step(0, 1), end(0, 1, api.EndZero))
}

// TestE2Answers: a function's answer that does not end well, with a step of its frame and without one; and At of what comes back.
func TestE2Answers(t *testing.T) {
	expectTrace(t, "func f(n) { return (1 / n); } main { var x; x = f(0); }", nil, api.MaxFuel,
		step(0, 0), call(0, 0, 0, 1), write(1, 0, 0, 0, 0), end(1, -1, api.EndZero))
	expectTrace(t, "func f(n) { arr a 2; print 4; return a[n]; } main { var x; x = f(2); }", nil, api.MaxFuel,
		step(0, 1), call(0, 1, 0, 1), write(1, 1, 0, 0, 2), step(1, 0), printed(1, 0, 4), end(1, 0, api.EndIndex))
	expectTrace(t, "func f() { return 1; } func g() { var x; x = f(); print x; return x; } main { var x; var y; y = g(); print y; }", nil, api.MaxFuel,
		step(0, 2), call(0, 2, 1, 1),
		step(1, 0), call(1, 0, 0, 2), back(2, 0, 1), write(1, 0, 0, 0, 1),
		step(1, 1), printed(1, 1, 1), back(1, 2, 1), write(0, 2, 1, 0, 1),
		step(0, 3), printed(0, 3, 1), done())
}

// TestE2Frames: each has its own variables, 0 at first; they are numbered as they are made.
func TestE2Frames(t *testing.T) {
	expectTrace(t, "func f(a, b, c) { arr t 2; var u; t[a] = b; print ((t[0] + (t[1] * 10)) + (u * 100)); u = c; return u; } main { var x; x = f(0, 1, 2); x = f(1, x, 3); }", nil, api.MaxFuel,
		step(0, 3), call(0, 3, 0, 1), write(1, 3, 0, 0, 0), write(1, 3, 1, 0, 1), write(1, 3, 2, 0, 2),
		step(1, 0), write(1, 0, 3, 0, 1), step(1, 1), printed(1, 1, 1), step(1, 2), write(1, 2, 4, 0, 2), back(1, 3, 2), write(0, 3, 0, 0, 2),
		step(0, 4), call(0, 4, 0, 2), write(2, 4, 0, 0, 1), write(2, 4, 1, 0, 2), write(2, 4, 2, 0, 3),
		step(2, 0), write(2, 0, 3, 1, 2), step(2, 1), printed(2, 1, 20), step(2, 2), write(2, 2, 4, 0, 3), back(2, 4, 3), write(0, 4, 0, 0, 3),
		done())
}

func TestE2Deep(t *testing.T) {
	const s = "func f(n) { var x; if n { x = f((n - 1)); } return (n * 10); } main { var x; var n; n = read; x = f(n); x = f(1); }"
	down := func(frames, n int) []api.Event {
		l := []api.Event{step(0, 2), read(0, 2, n), write(0, 2, 1, 0, n), step(0, 3), call(0, 3, 0, 1), write(1, 3, 0, 0, n)}
		for i := 1; i < frames; i++ {
			l = append(l, step(i, 0), step(i, 1), call(i, 1, 0, i+1), write(i+1, 1, 0, 0, n-i))
		}
		return append(l, step(frames, 0))
	}
	// with main six are in one another
	most := api.MaxFrames - 1
	l := down(most, most-1)
	for i := most; i > 1; i-- {
		l = append(l, back(i, 1, 10*(most-i)), write(i-1, 1, 1, 0, 10*(most-i)))
	}
	l = append(l, back(1, 3, 40), write(0, 3, 0, 0, 40),
		step(0, 4), call(0, 4, 0, 6), write(6, 4, 0, 0, 1), step(6, 0), step(6, 1), call(6, 1, 0, 7), write(7, 1, 0, 0, 0), step(7, 0),
		back(7, 1, 0), write(6, 1, 1, 0, 0), back(6, 4, 10), write(0, 4, 0, 0, 10), done())
	expectTrace(t, s, []int{most - 1}, api.MaxFuel, l...)
	expectTrace(t, s, []int{most}, api.MaxFuel, append(down(most, most), step(most, 1), end(most, 1, api.EndDeep))...)
	expectTrace(t, s, []int{most}, 2*most+2, append(down(most, most), step(most, 1), end(most, 1, api.EndDeep))...)
	expectTrace(t, s, []int{most}, 2*most+1, append(down(most, most), end(most, 1, api.EndFuel))...)
}

// TestE2DeepArgs: they are reckoned ahead of it.
func TestE2DeepArgs(t *testing.T) {
	const s = "func f(n) { var x; x = f((6 / (n - 1))); return 0; } main { var x; x = f(7); }"
	// 7, 1: then 6 / 0
	expectTrace(t, s, nil, api.MaxFuel,
		step(0, 1), call(0, 1, 0, 1), write(1, 1, 0, 0, 7),
		step(1, 0), call(1, 0, 0, 2), write(2, 0, 0, 0, 1),
		step(2, 0), end(2, 0, api.EndZero))
	l := run(t, program(t, "func f(n) { var x; x = f(((n - 1) + ((1 / n) * 0))); return 0; } main { var x; x = f(4); }"), nil, api.MaxFuel)
	if last := l[len(l)-1]; last != end(5, 0, api.EndZero) {
		t.Errorf("%v", last)
	}
	l = run(t, program(t, "func f(n) { var x; x = f(((n - 1) + ((1 / n) * 0))); return 0; } main { var x; x = f(5); }"), nil, api.MaxFuel)
	if last := l[len(l)-1]; last != end(5, 0, api.EndDeep) {
		t.Errorf("%v", last)
	}
}

// TestE2Over: when all has ended, no more is done, however much there would be.
func TestE2Over(t *testing.T) {
	calls := make([]api.Cmd, api.MaxCmds-1)
	for i := range calls {
		calls[i] = api.Cmd{Kind: api.CmdCall}
	}
	p := api.Program{Funcs: []api.Func{
		{Sizes: []int{0}, Cmds: calls, Result: num(1)},
		{Sizes: []int{0}, Cmds: []api.Cmd{{Kind: api.CmdCall}}},
	}}
	l := run(t, p, nil, api.MaxFuel)
	if last := l[len(l)-1]; last != end(5, 0, api.EndDeep) || len(l) != 12 {
		t.Errorf("%v", l)
	}
}

// TestE2Errors: in their order.
func TestE2Errors(t *testing.T) {
	right, wrong := program(t, "main { print 1; }"), api.Program{Funcs: []api.Func{{Params: -1}}}
	many, beyond := make([]int, api.MaxInput+1), []int{0, api.Most + 1}
	for _, row := range []struct {
		p    api.Program
		in   []int
		fuel int
		why  api.Errno
	}{
		{api.Program{}, many, -1, api.ErrForm},
		{wrong, many, -1, api.ErrRange},
		{api.Program{Funcs: []api.Func{{Cmds: make([]api.Cmd, 1)}}}, many, 501, api.ErrKind},
		{right, many, 1, api.ErrMany},
		{right, append(slices.Clone(many), api.Most+1), -1, api.ErrMany},
		{right, beyond, 1, api.ErrRange},
		{right, []int{api.Least - 1}, 1, api.ErrRange},
		{right, []int{math.MaxInt}, 1, api.ErrRange},
		{right, []int{math.MinInt}, 1, api.ErrRange},
		{right, nil, -1, api.ErrRange},
		{right, nil, math.MinInt, api.ErrRange},
		{right, nil, api.MaxFuel + 1, api.ErrRange},
		{right, nil, math.MaxInt, api.ErrRange},
	} {
		if l, e := trace.Run(row.p, row.in, row.fuel); e != row.why || len(l) > 0 {
			t.Errorf("Run(%v, %v, %d): %v %d, not %d", row.p, row.in, row.fuel, l, e, row.why)
		}
	}
	for _, in := range [][]int{make([]int, api.MaxInput), {api.Most}, {api.Least}} {
		run(t, right, in, api.MaxFuel)
		run(t, right, in, 0)
	}
}

// TestE4: with more fuel a trace goes on where it ended.
func TestE4(t *testing.T) {
	r := rand.New(rand.NewSource(4))
	for range 3000 {
		p := sample.Program(r.Intn)
		in := []int{r.Intn(4), r.Intn(9) - 4, api.Most}
		less := r.Intn(api.MaxFuel)
		if r.Intn(2) == 0 {
			less = r.Intn(20)
		}
		more := less + 1 + r.Intn(api.MaxFuel-less)
		l, m := run(t, p, in, less), run(t, p, in, more)
		if last := l[len(l)-1]; last.Value == api.EndFuel {
			l = l[:len(l)-1]
			next := m[len(l)]
			if next != step(last.Frame, last.At) {
				t.Fatalf("%v: %v, then %v", p, last, next)
			}
			m = m[:len(l)]
		}
		if !slices.Equal(l, m) {
			t.Fatalf("%v with %d and %d steps: %v and %v", p, less, more, l, m)
		}
	}
}
