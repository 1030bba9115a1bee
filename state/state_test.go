package state_test

import (
	"math"
	"math/rand"
	"reflect"
	"slices"
	"testing"

	"hindsight/api"
	"hindsight/sample"
	"hindsight/scope"
	"hindsight/state"
	"hindsight/trace"
)

// ran: the program of a text, and its trace.
func ran(t *testing.T, s string, in []int, fuel int) (api.Program, []api.Event) {
	t.Helper()
	p, at, e := scope.Program(s)
	if e != api.OK {
		t.Fatalf("%s: %d at %d", s, e, at)
	}
	return p, traced(t, p, in, fuel)
}

func traced(t *testing.T, p api.Program, in []int, fuel int) []api.Event {
	t.Helper()
	l, e := trace.Run(p, in, fuel)
	if e != api.OK {
		t.Fatalf("Run(%v, %v, %d): %d", p, in, fuel, e)
	}
	return l
}

// same: lists without elements may be nil or not.
func same[T any](a, b []T) bool {
	return len(a) == 0 && len(b) == 0 || reflect.DeepEqual(a, b)
}

func sameFrames(a, b []api.Frame) bool {
	return slices.EqualFunc(a, b, func(a, b api.Frame) bool {
		return a.Number == b.Number && a.Func == b.Func && same(a.Vars, b.Vars)
	})
}

func expectAt(t *testing.T, p api.Program, l []api.Event, time int, want ...api.Frame) {
	t.Helper()
	if f, e := state.At(p, l, time); !sameFrames(f, want) || e != api.OK {
		t.Errorf("At(%v, %v, %d): %v %d, not %v", p, l, time, f, e, want)
	}
}

func expectHistory(t *testing.T, p api.Program, l []api.Event, fn, v int, want ...api.Value) {
	t.Helper()
	if h, e := state.History(p, l, fn, v); !same(h, want) || e != api.OK {
		t.Errorf("History(%v, %v, %d, %d): %v %d, not %v", p, l, fn, v, h, e, want)
	}
}

func expectCalls(t *testing.T, p api.Program, l []api.Event, want ...api.Span) {
	t.Helper()
	if s, e := state.Calls(p, l); !same(s, want) || e != api.OK {
		t.Errorf("Calls(%v, %v): %v %d, not %v", p, l, s, e, want)
	}
}

func frame(number, fn int, vars ...[]int) api.Frame {
	return api.Frame{Number: number, Func: fn, Vars: vars}
}

func one(n int) []int { return []int{n} }

const example = `
func twice(n) {
  return (n + n);
}
main {
  var x;
  arr a 2;
  x = read;
  a[1] = (x * 3);
  x = twice(a[1]);
  print x;
}
`

func TestL1Example(t *testing.T) {
	p, l := ran(t, example, []int{5}, api.MaxFuel)
	for time := range 3 {
		expectAt(t, p, l, time, frame(0, 1, one(0), []int{0, 0}))
	}
	for time := 3; time <= 4; time++ {
		expectAt(t, p, l, time, frame(0, 1, one(5), []int{0, 0}))
	}
	for time := 5; time <= 6; time++ {
		expectAt(t, p, l, time, frame(0, 1, one(5), []int{0, 15}))
	}
	expectAt(t, p, l, 7, frame(0, 1, one(5), []int{0, 15}), frame(1, 0, one(0)))
	expectAt(t, p, l, 8, frame(0, 1, one(5), []int{0, 15}), frame(1, 0, one(15)))
	expectAt(t, p, l, 9, frame(0, 1, one(5), []int{0, 15}))
	for time := 10; time <= 13; time++ {
		expectAt(t, p, l, time, frame(0, 1, one(30), []int{0, 15}))
	}
	expectHistory(t, p, l, 0, 0, api.Value{Time: 7, Frame: 1, Value: 15})
	expectHistory(t, p, l, 1, 0, api.Value{Time: 2, Value: 5}, api.Value{Time: 9, Value: 30})
	expectHistory(t, p, l, 1, 1, api.Value{Time: 4, Index: 1, Value: 15})
	expectCalls(t, p, l, api.Span{Func: 1, By: -1, To: 12}, api.Span{Frame: 1, From: 6, To: 8, Answer: 30})
}

// TestL1Nothing: a program that does nothing, and traces without events.
func TestL1Nothing(t *testing.T) {
	p, l := ran(t, "main {}", nil, 0)
	expectAt(t, p, l, 0, frame(0, 0))
	expectAt(t, p, l, 1, frame(0, 0))
	expectCalls(t, p, l, api.Span{By: -1})
	for _, none := range [][]api.Event{nil, {}} {
		expectAt(t, p, none, 0, frame(0, 0))
		expectCalls(t, p, none, api.Span{By: -1, To: -1})
		q, _ := ran(t, example, nil, 0)
		expectAt(t, q, none, 0, frame(0, 1, one(0), []int{0, 0}))
		expectHistory(t, q, none, 1, 1)
		expectCalls(t, q, none, api.Span{Func: 1, By: -1, To: -1})
	}
}

// TestL1Cells: of arrays, of one cell too; of a variable that is none there is one value.
func TestL1Cells(t *testing.T) {
	p, l := ran(t, "main { arr a 1; arr b 8; var c; a[0] = 4; b[7] = 5; b[0] = 6; b[7] = -7; c = 8; a[0] = 9; }", nil, 9)
	expectAt(t, p, l, 0, frame(0, 0, one(0), make([]int, 8), one(0)))
	expectAt(t, p, l, 4, frame(0, 0, one(4), []int{0, 0, 0, 0, 0, 0, 0, 5}, one(0)))
	expectAt(t, p, l, 7, frame(0, 0, one(4), []int{6, 0, 0, 0, 0, 0, 0, 5}, one(0)))
	expectAt(t, p, l, 8, frame(0, 0, one(4), []int{6, 0, 0, 0, 0, 0, 0, -7}, one(0)))
	expectAt(t, p, l, 13, frame(0, 0, one(9), []int{6, 0, 0, 0, 0, 0, 0, -7}, one(8)))
	expectHistory(t, p, l, 0, 0, api.Value{Time: 1, Value: 4}, api.Value{Time: 11, Value: 9})
	expectHistory(t, p, l, 0, 1, api.Value{Time: 3, Index: 7, Value: 5}, api.Value{Time: 5, Value: 6}, api.Value{Time: 7, Index: 7, Value: -7})
	expectHistory(t, p, l, 0, 2, api.Value{Time: 9, Value: 8})
}

// TestL1Frames: a frame that is made anew is all 0, whatever an earlier one of its function had; frames in one another are told from each other.
func TestL1Frames(t *testing.T) {
	const s = "func f(n) { var r; arr a 2; a[1] = n; if n { r = f((n - 1)); } return r; } main { var x; x = f(1); x = f(0); }"
	p, l := ran(t, s, nil, api.MaxFuel)
	// 0 step, 1 call, 2 n; 3 step, 4 a[1]; 5 step, 6 step, 7 call, 8 n, 9 step, 10 a[1], 11 step, 12 back, 13 r, 14 back, 15 x; 16 step, 17 call, 18 n, 19 step, 20 a[1], 21 step, 22 back, 23 x, 24 end
	expectAt(t, p, l, 2, frame(0, 1, one(0)), frame(1, 0, one(0), one(0), []int{0, 0}))
	expectAt(t, p, l, 8, frame(0, 1, one(0)), frame(1, 0, one(1), one(0), []int{0, 1}), frame(2, 0, one(0), one(0), []int{0, 0}))
	expectAt(t, p, l, 12, frame(0, 1, one(0)), frame(1, 0, one(1), one(0), []int{0, 1}), frame(2, 0, one(0), one(0), []int{0, 0}))
	expectAt(t, p, l, 13, frame(0, 1, one(0)), frame(1, 0, one(1), one(0), []int{0, 1}))
	expectAt(t, p, l, 15, frame(0, 1, one(0)))
	expectAt(t, p, l, 18, frame(0, 1, one(0)), frame(3, 0, one(0), one(0), []int{0, 0}))
	expectAt(t, p, l, 25, frame(0, 1, one(0)))
	expectHistory(t, p, l, 0, 0, api.Value{Time: 2, Frame: 1, Value: 1}, api.Value{Time: 8, Frame: 2}, api.Value{Time: 18, Frame: 3})
	expectHistory(t, p, l, 0, 1, api.Value{Time: 13, Frame: 1})
	expectHistory(t, p, l, 0, 2, api.Value{Time: 4, Frame: 1, Index: 1, Value: 1}, api.Value{Time: 10, Frame: 2, Index: 1}, api.Value{Time: 20, Frame: 3, Index: 1})
	expectHistory(t, p, l, 1, 0, api.Value{Time: 15}, api.Value{Time: 23})
	expectCalls(t, p, l,
		api.Span{Func: 1, By: -1, To: 24},
		api.Span{Frame: 1, From: 1, To: 14},
		api.Span{Frame: 2, By: 1, From: 7, To: 12},
		api.Span{Frame: 3, From: 17, To: 22})
}

// TestL1Ends: if all does not end with EndDone, no frame that is still there has ended, frame 0 neither.
func TestL1Ends(t *testing.T) {
	for _, row := range []struct {
		s         string
		fuel, how int
		frames    []api.Frame
		spans     []api.Span
	}{
		{"main { var x; x = 3; }", 0, api.EndFuel,
			[]api.Frame{frame(0, 0, one(0))},
			[]api.Span{{By: -1, To: -1}}},
		{"func f(n) { n = 2; n = 1; return n; } main { var x; x = f(9); }", 2, api.EndFuel,
			[]api.Frame{frame(0, 1, one(0)), frame(1, 0, one(2))},
			[]api.Span{{Func: 1, By: -1, To: -1}, {Frame: 1, From: 1, To: -1}}},
		{"func f(n) { return (6 / n); } main { var x; x = f(2); x = f(0); }", 9, api.EndZero,
			[]api.Frame{frame(0, 1, one(3)), frame(2, 0, one(0))},
			[]api.Span{{Func: 1, By: -1, To: -1}, {Frame: 1, From: 1, To: 3, Answer: 3}, {Frame: 2, From: 6, To: -1}}},
		{"main { arr a 2; a[1] = 7; a[2] = 8; }", 9, api.EndIndex,
			[]api.Frame{frame(0, 0, []int{0, 7})},
			[]api.Span{{By: -1, To: -1}}},
		{"func f() { var x; x = f(); return x; } main { var y; y = f(); }", 9, api.EndDeep,
			[]api.Frame{frame(0, 1, one(0)), frame(1, 0, one(0)), frame(2, 0, one(0)), frame(3, 0, one(0)), frame(4, 0, one(0)), frame(5, 0, one(0))},
			[]api.Span{{Func: 1, By: -1, To: -1}, {Frame: 1, From: 1, To: -1}, {Frame: 2, By: 1, From: 3, To: -1}, {Frame: 3, By: 2, From: 5, To: -1}, {Frame: 4, By: 3, From: 7, To: -1}, {Frame: 5, By: 4, From: 9, To: -1}}},
		{"func f() { return 0; } main { var y; y = 4; y = f(); }", 9, api.EndDone,
			[]api.Frame{frame(0, 1, one(0))},
			[]api.Span{{Func: 1, By: -1, To: 6}, {Frame: 1, From: 3, To: 4}}},
	} {
		p, l := ran(t, row.s, nil, row.fuel)
		if last := l[len(l)-1]; last.Kind != api.EventEnd || last.Value != row.how {
			t.Errorf("%s: ends with %v", row.s, last)
		}
		expectAt(t, p, l, len(l), row.frames...)
		expectAt(t, p, l, len(l)-1, row.frames...)
		expectAt(t, p, l[:len(l)-1], len(l)-1, row.frames...)
		expectCalls(t, p, l, row.spans...)
	}
}

// framesAt a time, each thing by itself: a frame is there, if its call was, and its end not yet; a cell is what was written last.
func framesAt(p api.Program, l []api.Event, time int) []api.Frame {
	ahead := l[:time]
	frames := []api.Frame{{Func: len(p.Funcs) - 1}}
	for _, x := range ahead {
		isBack := func(y api.Event) bool { return y.Kind == api.EventBack && y.Frame == x.Value }
		if x.Kind == api.EventCall && !slices.ContainsFunc(ahead, isBack) {
			frames = append(frames, api.Frame{Number: x.Value, Func: x.Var})
		}
	}
	for i := range frames {
		for v, size := range p.Funcs[frames[i].Func].Sizes {
			cells := make([]int, max(size, 1))
			for _, x := range ahead {
				if x.Kind == api.EventWrite && x.Frame == frames[i].Number && x.Var == v {
					cells[x.Index] = x.Value
				}
			}
			frames[i].Vars = append(frames[i].Vars, cells)
		}
	}
	return frames
}

// functionOf a frame, by its call.
func functionOf(p api.Program, l []api.Event, frame int) int {
	for _, x := range l {
		if x.Kind == api.EventCall && x.Value == frame {
			return x.Var
		}
	}
	return len(p.Funcs) - 1
}

func historyOf(p api.Program, l []api.Event, fn, v int) []api.Value {
	var h []api.Value
	for time, x := range l {
		if x.Kind == api.EventWrite && x.Var == v && functionOf(p, l, x.Frame) == fn {
			h = append(h, api.Value{Time: time, Frame: x.Frame, Index: x.Index, Value: x.Value})
		}
	}
	return h
}

func callsOf(p api.Program, l []api.Event) []api.Span {
	isDone := func(x api.Event) bool { return x.Kind == api.EventEnd && x.Value == api.EndDone }
	spans := []api.Span{{Func: len(p.Funcs) - 1, By: -1, To: slices.IndexFunc(l, isDone)}}
	for time, x := range l {
		if x.Kind != api.EventCall {
			continue
		}
		s := api.Span{Frame: x.Value, Func: x.Var, By: x.Frame, From: time}
		s.To = slices.IndexFunc(l, func(y api.Event) bool { return y.Kind == api.EventBack && y.Frame == x.Value })
		if s.To >= 0 {
			s.Answer = l[s.To].Value
		}
		spans = append(spans, s)
	}
	return spans
}

// busy: programs that call much, for those that are drawn call little.
func busy() []string {
	return []string{
		"func fac(n) { var r; r = 1; if (1 < n) { r = fac((n - 1)); r = (r * n); } return r; } main { var x; x = fac(5); print x; x = fac(9); print x; }",
		"func f(a, b) { arr t 3; t[a] = b; return t[(a + 1)]; } main { var x; x = f(0, 7); x = f(1, 8); x = f(2, 9); print x; }",
		"func h(n) { var s; while (0 < n) { s = (s + n); n = (n - 1); } return s; } func k(a, b) { var x; var y; x = h(a); y = h(b); return ((x * 10) + y); } main { var z; while 1 { z = read; z = k(z, 4); print z; } }",
	}
}

// drawn: a program, and a beginning of a trace of it.
func drawn(t *testing.T, r *rand.Rand) (api.Program, []api.Event) {
	t.Helper()
	p := sample.Program(r.Intn)
	if r.Intn(3) == 0 {
		p, _ = ran(t, busy()[r.Intn(3)], nil, 0)
	}
	l := traced(t, p, []int{3, 0, -1, 2}[:r.Intn(5)], []int{r.Intn(10), r.Intn(100), api.MaxFuel}[r.Intn(3)])
	return p, l[:len(l)-r.Intn(2)*r.Intn(len(l)+1)]
}

func TestL1Any(t *testing.T) {
	r := rand.New(rand.NewSource(1))
	called := 0
	for range 1000 {
		p, l := drawn(t, r)
		for range 5 {
			time := r.Intn(len(l) + 1)
			expectAt(t, p, l, time, framesAt(p, l, time)...)
		}
		expectAt(t, p, l, len(l), framesAt(p, l, len(l))...)
		for fn, f := range p.Funcs {
			for v := range f.Sizes {
				expectHistory(t, p, l, fn, v, historyOf(p, l, fn, v)...)
			}
		}
		spans := callsOf(p, l)
		expectCalls(t, p, l, spans...)
		called += len(spans) - 1
	}
	if called < 1000 {
		t.Errorf("only %d calls", called)
	}
}

// TestL1Longest: nothing is too much of the longest traces.
func TestL1Longest(t *testing.T) {
	p, l := ran(t, "func f(a, b, c) { return a; } main { var x; while 1 { x = f(1, 2, 3); x = f(4, 5, 6); x = f(7, 8, 9); x = f(1, 2, 3); x = f(1, 2, 3); x = f(1, 2, 3); x = f(1, 2, 3); x = f(1, 2, 3); x = f(1, 2, 3); x = f(1, 2, 3); x = f(1, 2, 3); } }", nil, api.MaxFuel)
	if len(l) < 3000 {
		t.Fatalf("%d events", len(l))
	}
	expectAt(t, p, l, len(l), framesAt(p, l, len(l))...)
	expectHistory(t, p, l, 0, 2, historyOf(p, l, 0, 2)...)
	expectCalls(t, p, l, callsOf(p, l)...)
}

// expectWhy: all calls tell the same error, and nothing else, whatever is asked beside.
func expectWhy(t *testing.T, p api.Program, l []api.Event, why api.Errno) {
	t.Helper()
	for _, n := range []int{0, -1, len(l) + 1, math.MinInt, math.MaxInt} {
		if f, e := state.At(p, l, n); len(f) > 0 || e != why {
			t.Errorf("At(%v, %d events, %d): %v %d, not %d", p, len(l), n, f, e, why)
		}
		for _, m := range []int{0, -1, math.MaxInt} {
			if h, e := state.History(p, l, n, m); len(h) > 0 || e != why {
				t.Errorf("History(%v, %d events, %d, %d): %v %d, not %d", p, len(l), n, m, h, e, why)
			}
		}
	}
	if s, e := state.Calls(p, l); len(s) > 0 || e != why {
		t.Errorf("Calls(%v, %d events): %v %d, not %d", p, len(l), s, e, why)
	}
}

// TestL2Programs: what is wrong with a program is told first.
func TestL2Programs(t *testing.T) {
	_, l := ran(t, example, nil, 9)
	for _, row := range []struct {
		p   api.Program
		why api.Errno
	}{
		{api.Program{}, api.ErrForm},
		{api.Program{Funcs: make([]api.Func, api.MaxFuncs+1)}, api.ErrMany},
		{api.Program{Funcs: []api.Func{{Params: -1}}}, api.ErrRange},
		{api.Program{Funcs: []api.Func{{Cmds: []api.Cmd{{Kind: 9}}}}}, api.ErrKind},
		{api.Program{Funcs: []api.Func{{Cmds: []api.Cmd{{Kind: api.CmdRead}}}}}, api.ErrNone},
	} {
		for _, m := range [][]api.Event{nil, l, make([]api.Event, 3), make([]api.Event, api.MaxTrace+1)} {
			expectWhy(t, row.p, m, row.why)
		}
	}
}

// TestL2Within: a program that has itself in it, too, has too many commands.
func TestL2Within(t *testing.T) {
	within := []api.Cmd{{Kind: api.CmdWhile, Expr: api.Expr{Kind: api.ExprNumber}}}
	within[0].Then = within
	p := api.Program{Funcs: []api.Func{{Cmds: within}}}
	_, a := state.At(p, nil, 0)
	_, h := state.History(p, nil, 0, 0)
	_, c := state.Calls(p, nil)
	if a != api.ErrMany || h != api.ErrMany || c != api.ErrMany {
		t.Errorf("%d %d %d", a, h, c)
	}
}

// TestL2Lists: too many events are told ahead of those that are not right, and these ahead of all else.
func TestL2Lists(t *testing.T) {
	p, l := ran(t, example, []int{5}, 9)
	expectWhy(t, p, make([]api.Event, api.MaxTrace), api.ErrState)
	expectWhy(t, p, make([]api.Event, api.MaxTrace+1), api.ErrMany)
	expectWhy(t, p, append(slices.Clone(l), make([]api.Event, api.MaxTrace)...), api.ErrMany)
	for i := range l {
		for _, by := range []int{-1, 1, 100, api.Most, math.MinInt} {
			for field := range 6 {
				m := slices.Clone(l)
				*[]*int{&m[i].Kind, &m[i].Frame, &m[i].At, &m[i].Var, &m[i].Index, &m[i].Value}[field] += by
				expectWhy(t, p, m, api.ErrState)
			}
		}
		if i < len(l)-1 {
			expectWhy(t, p, slices.Delete(slices.Clone(l), i, i+1), api.ErrState)
		}
		expectWhy(t, p, slices.Insert(slices.Clone(l), i, l[i]), api.ErrState)
	}
	expectWhy(t, p, append(slices.Clone(l), l[len(l)-1]), api.ErrState)
	expectWhy(t, p, make([]api.Event, 1), api.ErrState)
	q, _ := ran(t, "main { print 1; }", nil, 9)
	expectWhy(t, q, l, api.ErrState)
}

func TestL2Times(t *testing.T) {
	p, l := ran(t, example, []int{5}, 9)
	for n := range len(l) + 1 {
		for _, time := range []int{-1, n + 1, n + 2, math.MinInt, math.MaxInt} {
			if f, e := state.At(p, l[:n], time); len(f) > 0 || e != api.ErrRange {
				t.Errorf("At, %d events, %d: %v %d", n, time, f, e)
			}
		}
		expectAt(t, p, l[:n], 0, frame(0, 1, one(0), []int{0, 0}))
		expectAt(t, p, l[:n], n, framesAt(p, l, n)...)
	}
}

func TestL2Variables(t *testing.T) {
	p, l := ran(t, "func f(a, b) { return a; } func g() { return 1; } main { arr x 5; var y; y = f(1, 2); }", nil, 9)
	for _, row := range []struct{ fn, v int }{
		{-1, 0}, {3, 0}, {math.MinInt, 0}, {math.MaxInt, 0}, {-1, -1}, {3, 9},
		{0, -1}, {0, 2}, {1, -1}, {1, 0}, {2, -1}, {2, 2}, {2, 4}, {0, math.MinInt}, {0, math.MaxInt}, {2, math.MaxInt},
	} {
		for _, m := range [][]api.Event{nil, l[:3], l} {
			if h, e := state.History(p, m, row.fn, row.v); len(h) > 0 || e != api.ErrNone {
				t.Errorf("History(%d, %d): %v %d", row.fn, row.v, h, e)
			}
		}
	}
	expectHistory(t, p, l, 0, 0, api.Value{Time: 2, Frame: 1, Value: 1})
	expectHistory(t, p, l, 0, 1, api.Value{Time: 3, Frame: 1, Value: 2})
	// a variable that nothing was written to is there all the same
	expectHistory(t, p, l, 2, 0)
	expectHistory(t, p, l, 2, 1, api.Value{Time: 5, Value: 1})
}

// TestL3Beginnings: what comes behind a time tells nothing of it.
func TestL3Beginnings(t *testing.T) {
	r := rand.New(rand.NewSource(2))
	for range 300 {
		p, l := drawn(t, r)
		time := r.Intn(len(l) + 1)
		f, _ := state.At(p, l, time)
		expectAt(t, p, l[:time], time, f...)
		for fn := range p.Funcs {
			for v := range p.Funcs[fn].Sizes {
				h, _ := state.History(p, l, fn, v)
				h = slices.DeleteFunc(h, func(x api.Value) bool { return x.Time >= time })
				expectHistory(t, p, l[:time], fn, v, h...)
			}
		}
		var ahead []api.Span
		spans, _ := state.Calls(p, l)
		for i, s := range spans {
			if i > 0 && s.From >= time {
				continue
			}
			if s.To >= time {
				s.To, s.Answer = -1, 0
			}
			ahead = append(ahead, s)
		}
		expectCalls(t, p, l[:time], ahead...)
	}
}

// TestL3Otherwise: two traces that were the same up to a time tell the same of it, whatever came then.
func TestL3Otherwise(t *testing.T) {
	const s = "func f(n) { var x; x = read; if x { n = (n / (x - 2)); } return n; } main { var y; var z; arr a 3; while 1 { y = read; z = f(6); a[y] = z; } }"
	p, l := ran(t, s, []int{1, 1, 0, 1, 1, 1}, 60)
	compared := 0
	for _, in := range [][]int{{1, 1, 0, 1, 1, 2}, {1, 1, 0, 1, 1, 5}, {1, 1, 3}, {1, 1, -1}, {1, 2}, {1, 1, 0, 1, 0}, {7}, nil} {
		for _, fuel := range []int{0, 1, 7, 20, api.MaxFuel} {
			m := traced(t, p, in, fuel)
			for time := 0; time <= min(len(l), len(m)) && slices.Equal(l[:time], m[:time]); time++ {
				f, _ := state.At(p, l, time)
				expectAt(t, p, m, time, f...)
				compared++
			}
		}
	}
	if compared < 200 {
		t.Errorf("only %d times are the same", compared)
	}
}

// TestP2States: what came out may be changed without changing what was handed in, or what comes next.
func TestP2States(t *testing.T) {
	const s = "func f(n) { arr a 3; a[1] = n; return a[3]; } main { var x; x = 5; x = f(2); }"
	p, l := ran(t, s, nil, 9)
	q, m := ran(t, s, nil, 9)
	for range 3 {
		for time := range len(l) + 1 {
			f, _ := state.At(p, l, time)
			for i := range f {
				for _, cells := range f[i].Vars {
					for j := range cells {
						cells[j] = 77
					}
				}
				f[i].Number, f[i].Func = 77, 77
				f[i].Vars = append(f[i].Vars[:1], nil)
			}
			expectAt(t, p, l, time, framesAt(q, m, time)...)
		}
		h, _ := state.History(p, l, 0, 1)
		clear(h)
		expectHistory(t, p, l, 0, 1, historyOf(q, m, 0, 1)...)
		c, _ := state.Calls(p, l)
		clear(c)
		expectCalls(t, p, l, callsOf(q, m)...)
		if !reflect.DeepEqual(p, q) || !slices.Equal(l, m) {
			t.Fatalf("%v %v", p, l)
		}
	}
	f, _ := state.At(p, l, len(l))
	clear(p.Funcs[0].Sizes)
	clear(p.Funcs)
	clear(l)
	if want := framesAt(q, m, len(m)); !sameFrames(f, want) {
		t.Errorf("%v, not %v", f, want)
	}
}
