package vm_test

import (
	"math"
	"slices"
	"testing"

	"hindsight/api"
	"hindsight/vm"
)

func instr(kind int, ab ...int) api.Instr {
	i := api.Instr{Kind: kind}
	if len(ab) > 0 {
		i.A = ab[0]
	}
	if len(ab) > 1 {
		i.B = ab[1]
	}
	return i
}

var (
	halt = instr(api.CodeHalt)
	back = instr(api.CodeBack)
	out  = instr(api.CodePrint)
)

func step(at int) api.Instr          { return instr(api.CodeStep, at) }
func number(n int) api.Instr         { return instr(api.CodeConst, n) }
func load(v int) api.Instr           { return instr(api.CodeLoad, v) }
func cell(v int) api.Instr           { return instr(api.CodeCell, v) }
func op(kind int) api.Instr          { return instr(api.CodeOp, kind) }
func store(v int) api.Instr          { return instr(api.CodeStore, v) }
func put(v int) api.Instr            { return instr(api.CodePut, v) }
func read(v int) api.Instr           { return instr(api.CodeRead, v) }
func onAt(i int) api.Instr           { return instr(api.CodeGoto, i) }
func zero(i int) api.Instr           { return instr(api.CodeZero, i) }
func call(function, b int) api.Instr { return instr(api.CodeCall, function, b) }

func event(kind, frame, at, v, index, value int) api.Event {
	return api.Event{Kind: kind, Frame: frame, At: at, Var: v, Index: index, Value: value}
}
func stepped(frame, at int) api.Event { return event(api.EventStep, frame, at, 0, 0, 0) }
func wrote(frame, at, v, index, value int) api.Event {
	return event(api.EventWrite, frame, at, v, index, value)
}
func came(frame, at, value int) api.Event { return event(api.EventRead, frame, at, 0, 0, value) }
func went(frame, at, value int) api.Event { return event(api.EventPrint, frame, at, 0, 0, value) }
func called(frame, at, f, made int) api.Event {
	return event(api.EventCall, frame, at, f, 0, made)
}
func wentBack(frame, at, value int) api.Event { return event(api.EventBack, frame, at, 0, 0, value) }
func end(frame, at, how int) api.Event        { return event(api.EventEnd, frame, at, 0, 0, how) }
func done() api.Event                         { return end(0, -1, api.EndDone) }

// alone: code of one function, with two variables and an array of three cells.
func alone(l ...api.Instr) api.Code {
	return api.Code{Instrs: l, First: []int{0}, Sizes: [][]int{{0, 0, 3}}}
}

// two functions: main, with the variables of alone; and function 0, with these sizes, behind it.
func two(sizes []int, function []api.Instr, main ...api.Instr) api.Code {
	c := alone(main...)
	c.First = []int{len(main), 0}
	c.Sizes = [][]int{sizes, c.Sizes[0]}
	c.Instrs = append(c.Instrs, function...)
	return c
}

func list(l ...api.Instr) []api.Instr { return l }

func expectRun(t *testing.T, c api.Code, in []int, fuel int, want ...api.Event) {
	t.Helper()
	l, ok, e := vm.Run(c, in, fuel)
	if !ok || e != api.OK || !slices.Equal(l, want) {
		t.Errorf("%v with %v and %d: %v %d\n%v, not\n%v", c, in, fuel, ok, e, l, want)
	}
}

func expectAstray(t *testing.T, c api.Code, in []int, fuel int) {
	t.Helper()
	l, ok, e := vm.Run(c, in, fuel)
	if ok || e != api.OK || len(l) > 0 {
		t.Errorf("%v with %v and %d: %v %d\n%v, but it goes astray", c, in, fuel, ok, e, l)
	}
}

// TestG1Kinds: what each kind of instruction does, ahead of any step.
func TestG1Kinds(t *testing.T) {
	expectRun(t, alone(halt), nil, 0, done())
	expectRun(t, alone(number(1), number(2), halt), nil, 0, done())
	expectRun(t, alone(number(api.Least), out, number(api.Most), out, halt), nil, 0, went(0, -1, api.Least), went(0, -1, api.Most), done())
	expectRun(t, alone(load(1), out, number(5), store(1), load(1), out, load(0), out, halt), nil, 0,
		went(0, -1, 0), wrote(0, -1, 1, 0, 5), went(0, -1, 5), went(0, -1, 0), done())
	expectRun(t, alone(number(2), cell(2), out, number(2), number(-7), put(2), number(2), cell(2), out, number(0), cell(2), out, halt), nil, 0,
		went(0, -1, 0), wrote(0, -1, 2, 2, -7), went(0, -1, -7), went(0, -1, 0), done())
	expectRun(t, alone(read(1), load(1), out, read(1), read(0), halt), []int{9, -8}, 0,
		came(0, -1, 9), wrote(0, -1, 1, 0, 9), went(0, -1, 9), came(0, -1, -8), wrote(0, -1, 1, 0, -8), came(0, -1, 0), wrote(0, -1, 0, 0, 0), done())
	expectRun(t, alone(onAt(3), number(1), out, number(2), out, halt), nil, 0, went(0, -1, 2), done())
	expectRun(t, alone(number(7), number(0), zero(5), number(1), out, out, halt), nil, 0, went(0, -1, 7), done())
	expectRun(t, alone(number(7), number(-1), zero(5), number(1), out, out, halt), nil, 0, went(0, -1, 1), went(0, -1, 7), done())
	// what is printed is on the pile no more
	expectRun(t, alone(number(7), number(8), out, out, halt), nil, 0, went(0, -1, 8), went(0, -1, 7), done())
	expectAstray(t, alone(number(8), out, out, halt), nil, 0)
}

func TestG1Ops(t *testing.T) {
	for _, row := range []struct{ kind, a, b, value int }{
		{api.ExprAdd, 5, 3, 8}, {api.ExprAdd, api.Most, 1, api.Least},
		{api.ExprSub, 5, 3, 2}, {api.ExprSub, api.Least, 1, api.Most},
		{api.ExprMul, 5, 3, 15}, {api.ExprMul, 65536, 65536, 0}, {api.ExprMul, api.Most, api.Most, 1},
		{api.ExprDiv, -7, 2, -3}, {api.ExprDiv, api.Least, -1, api.Least}, {api.ExprDiv, 2, 7, 0},
		{api.ExprRest, -7, 2, -1}, {api.ExprRest, 7, -2, 1}, {api.ExprRest, api.Least, -1, 0},
		{api.ExprLess, 3, 5, 1}, {api.ExprLess, 5, 3, 0}, {api.ExprLess, 3, 3, 0},
		{api.ExprSame, 3, 3, 1}, {api.ExprSame, 3, 5, 0},
	} {
		expectRun(t, alone(number(6), number(row.a), number(row.b), op(row.kind), out, out, halt), nil, 0,
			went(0, -1, row.value), went(0, -1, 6), done())
	}
}

// TestG1Steps: each event has the command of its frame's last step; ahead of a step that there is no fuel for, all ends, at the command that is come to.
func TestG1Steps(t *testing.T) {
	c := alone(step(9), number(1), number(2), step(3), number(4), put(2), out, step(math.MaxInt), read(0), halt)
	whole := []api.Event{
		stepped(0, 9), stepped(0, 3), wrote(0, 3, 2, 2, 4), went(0, 3, 1),
		stepped(0, math.MaxInt), came(0, math.MaxInt, 6), wrote(0, math.MaxInt, 0, 0, 6), done(),
	}
	expectRun(t, c, []int{6}, 0, end(0, 9, api.EndFuel))
	expectRun(t, c, []int{6}, 1, stepped(0, 9), end(0, 3, api.EndFuel))
	expectRun(t, c, []int{6}, 2, append(slices.Clone(whole[:4]), end(0, math.MaxInt, api.EndFuel))...)
	for _, fuel := range []int{3, 4, api.MaxFuel} {
		expectRun(t, c, []int{6}, fuel, whole...)
	}
	forever := slices.Repeat([]api.Event{stepped(0, 0)}, api.MaxFuel)
	expectRun(t, alone(step(0), onAt(0)), nil, api.MaxFuel, append(forever, end(0, 0, api.EndFuel))...)
}

// TestG1Ends: at a division and at a cell that there is not.
func TestG1Ends(t *testing.T) {
	for _, at := range []int{-1, 4} {
		first, told := list(), []api.Event{}
		if at >= 0 {
			first, told = list(step(at)), []api.Event{stepped(0, at)}
		}
		ends := func(how int, l ...api.Instr) {
			t.Helper()
			expectRun(t, alone(append(slices.Clone(first), l...)...), nil, 1, append(slices.Clone(told), end(0, at, how))...)
		}
		// behind the end nothing is looked at
		ends(api.EndZero, number(6), number(0), op(api.ExprDiv))
		ends(api.EndZero, number(0), number(0), op(api.ExprRest), out, out, out)
		for _, n := range []int{-1, 3, api.Least, api.Most} {
			ends(api.EndIndex, number(n), cell(2))
			ends(api.EndIndex, number(n), number(5), put(2))
		}
	}
}

func TestG1Calls(t *testing.T) {
	// function 0: its third variable is its own, and begins with 0, each time; its pile too
	function := list(load(2), out, number(7), store(2), number(50), step(5), load(0), load(1), op(api.ExprSub), back)
	c := two([]int{0, 0, 0}, function, step(1), number(30), number(10), number(4), call(0, 2), op(api.ExprAdd), out, step(2), number(1), number(2), call(0, 2), out, halt)
	expectRun(t, c, nil, 9,
		stepped(0, 1), called(0, 1, 0, 1), wrote(1, 1, 0, 0, 10), wrote(1, 1, 1, 0, 4),
		went(1, -1, 0), wrote(1, -1, 2, 0, 7), stepped(1, 5), wentBack(1, 1, 6), went(0, 1, 36),
		stepped(0, 2), called(0, 2, 0, 2), wrote(2, 2, 0, 0, 1), wrote(2, 2, 1, 0, 2),
		went(2, -1, 0), wrote(2, -1, 2, 0, 7), stepped(2, 5), wentBack(2, 2, -1), went(0, 2, -1), done())
	// fewer parameters than variables, then arrays among them; none at all; ahead of any step
	expectRun(t, two([]int{0, 4}, list(load(0), back), number(3), call(0, 1), out, halt), nil, 0,
		called(0, -1, 0, 1), wrote(1, -1, 0, 0, 3), wentBack(1, -1, 3), went(0, -1, 3), done())
	expectRun(t, two([]int{4}, list(number(1), number(0), put(0), number(1), cell(0), back), call(0, 0), out, halt), nil, 0,
		called(0, -1, 0, 1), wrote(1, -1, 0, 1, 0), wentBack(1, -1, 0), went(0, -1, 0), done())
	// main has no pile but its own: what it called left nothing there but the answer
	expectAstray(t, two(nil, list(number(1), number(2), back), call(0, 0), out, out, halt), nil, 0)
	// a frame takes nothing from the pile of who called it
	expectAstray(t, two(nil, list(out, number(1), back), number(5), call(0, 0), halt), nil, 0)
}

// TestG1Last: the last function is the one that runs, wherever it lies; it may be called too.
func TestG1Last(t *testing.T) {
	c := api.Code{
		Instrs: list(number(1), out, halt, number(2), out, load(0), zero(10), number(3), out, halt, number(1), call(1, 1), halt),
		First:  []int{0, 3},
		Sizes:  [][]int{nil, {0}},
	}
	// in frame 1 it comes to CodeHalt
	expectAstray(t, c, nil, 0)
	c.Instrs[9] = back
	c.Instrs[8] = number(8)
	expectRun(t, c, nil, 0, went(0, -1, 2), called(0, -1, 1, 1), wrote(1, -1, 0, 0, 1), went(1, -1, 2), wentBack(1, -1, 8), done())
}

// TestG1Deep: MaxFrames may be in one another, and are numbered as they are made.
func TestG1Deep(t *testing.T) {
	c := two([]int{0}, list(step(8), load(0), zero(12), load(0), number(1), op(api.ExprSub), call(0, 1), number(0), back), read(0), step(7), load(0), call(0, 1), halt)
	if c.Instrs[12] != number(0) {
		t.Fatal(c.Instrs[12])
	}
	for n := range api.MaxFrames + 2 {
		want := []api.Event{came(0, -1, n), wrote(0, -1, 0, 0, n), stepped(0, 7)}
		at := 7
		for k := 0; k <= min(n, api.MaxFrames-2); k++ {
			want = append(want, called(k, at, 0, k+1), wrote(k+1, at, 0, 0, n-k), stepped(k+1, 8))
			at = 8
		}
		if n > api.MaxFrames-2 {
			expectRun(t, c, []int{n}, api.MaxFuel, append(want, end(api.MaxFrames-1, 8, api.EndDeep))...)
			continue
		}
		for k := n + 1; k > 0; k-- {
			at = 8
			if k == 1 {
				at = 7
			}
			want = append(want, wentBack(k, at, 0))
		}
		expectRun(t, c, []int{n}, api.MaxFuel, append(want, done())...)
	}
}

// TestG1Again: frames that ended leave room for others.
func TestG1Again(t *testing.T) {
	c := two(nil, list(step(1), number(0), back), step(0), call(0, 0), zero(0))
	want := []api.Event{}
	for n := range api.MaxFuel / 2 {
		want = append(want, stepped(0, 0), called(0, 0, 0, n+1), stepped(n+1, 1), wentBack(n+1, 0, 0))
	}
	expectRun(t, c, nil, api.MaxFuel, append(want, end(0, 0, api.EndFuel))...)
}

func TestG1Astray(t *testing.T) {
	more := func(l ...api.Instr) api.Code { return alone(append(l, halt)...) }
	for i, c := range []api.Code{
		// more than is on the pile
		more(cell(2)), more(store(0)), more(put(2)), more(number(1), put(2)), more(out), more(zero(0)),
		more(op(api.ExprAdd)), more(number(1), op(api.ExprAdd)), more(number(0), op(api.ExprDiv)),
		two([]int{0}, list(number(1), back), call(0, 1), halt),
		two([]int{0, 0}, list(number(1), back), number(1), call(0, 2), halt),
		two([]int{0, 0, 0}, list(number(1), back), number(1), number(1), call(0, 3), halt),
		two(nil, list(back), number(1), call(0, 0), halt),
		// a variable that is not there
		more(load(3)), more(load(math.MaxInt)), more(number(1), store(3)), more(number(1), cell(3)), more(number(1), number(1), put(3)), more(read(3)),
		two(nil, list(load(0), back), call(0, 0), halt),
		// an array, or none
		more(load(2)), more(number(1), store(2)), more(read(2)),
		more(number(0), cell(0)), more(number(0), number(1), put(1)), more(number(-1), cell(0)), more(number(1), number(1), put(0)),
		// parameters
		two(nil, list(number(1), back), number(1), call(0, 1), halt),
		two([]int{0, 0}, list(number(1), back), number(1), number(1), number(1), call(0, 3), halt),
		two([]int{4}, list(number(1), back), number(1), call(0, 1), halt),
		two([]int{0, 1}, list(number(1), back), number(1), number(1), call(0, 2), halt),
		two([]int{0, 0, 8}, list(number(1), back), number(1), number(1), number(1), call(0, 3), halt),
		// CodeBack in frame 0, CodeHalt in another one
		more(number(1), back), more(back),
		two(nil, list(halt), call(0, 0), halt),
		// behind the last instruction
		alone(number(1)), alone(number(0), zero(3), number(1), number(2)), alone(onAt(1), number(1)),
		alone(step(1)), alone(number(1), zero(0)),
		two(nil, list(number(1), step(1)), call(0, 0), halt),
	} {
		l, ok, e := vm.Run(c, []int{3}, 5)
		if ok || e != api.OK || len(l) > 0 {
			t.Errorf("%d: %v: %v %v %d, but it goes astray", i, c, l, ok, e)
		}
	}
}

// TestG1AstrayLate: whatever there was ahead of it, there are no events; but what is not come to is no matter.
func TestG1AstrayLate(t *testing.T) {
	l := list(step(0), number(1), out, read(0), load(0), zero(7), out, halt)
	expectAstray(t, alone(l...), []int{1}, 9)
	expectRun(t, alone(l...), []int{0}, 9, stepped(0, 0), went(0, 0, 1), came(0, 0, 0), wrote(0, 0, 0, 0, 0), done())
	expectRun(t, alone(l...), []int{1}, 0, end(0, 0, api.EndFuel))
	expectRun(t, alone(step(0), number(1), number(0), op(api.ExprDiv), out, back), nil, 9, stepped(0, 0), end(0, 0, api.EndZero))
}

// TestG1AstrayDeep: a call that is wrong goes astray where one that is right would be too deep.
func TestG1AstrayDeep(t *testing.T) {
	for _, row := range []struct {
		last  api.Instr
		isBad bool
	}{
		{call(0, 0), false}, {call(0, 1), false}, {call(1, 2), false},
		{call(0, 2), true}, {call(1, 3), true},
		{back, false},
	} {
		// function 0 calls itself, if what is handed to it is not 0, else does the last one
		c := two([]int{0, 3}, list(load(0), zero(10), load(0), number(1), op(api.ExprSub), call(0, 1), number(1), number(2), number(3), row.last, back), read(0), load(0), call(0, 1), halt)
		if c.Instrs[13] != row.last {
			t.Fatal(c.Instrs[13])
		}
		l, ok, _ := vm.Run(c, []int{api.MaxFrames - 2}, 0)
		if ok == row.isBad {
			t.Errorf("%v: %v %v", row.last, l, ok)
		}
	}
}

func TestG1Pile(t *testing.T) {
	full := slices.Repeat(list(number(1)), 64)
	expectRun(t, alone(append(slices.Clone(full), halt)...), nil, 0, done())
	expectAstray(t, alone(append(slices.Clone(full), number(2), halt)...), nil, 0)
	expectAstray(t, alone(append(slices.Clone(full), load(0), halt)...), nil, 0)
	expectRun(t, alone(append(slices.Clone(full), op(api.ExprAdd), load(0), cell(2), step(1), read(1), halt)...), []int{5}, 1,
		stepped(0, 1), came(0, 1, 5), wrote(0, 1, 1, 0, 5), done())
	// the answer of a frame comes on the pile of the one that called it; each has its own
	answer := append(slices.Clone(full), back)
	expectAstray(t, two(nil, answer, append(slices.Clone(full), call(0, 0), halt)...), nil, 0)
	expectAstray(t, two(nil, append(slices.Clone(full), number(1), back), call(0, 0), halt), nil, 0)
	expectRun(t, two(nil, answer, append(slices.Clone(full[1:]), call(0, 0), halt)...), nil, 0,
		called(0, -1, 0, 1), wentBack(1, -1, 1), done())
	expectRun(t, two([]int{0}, answer, append(slices.Clone(full), call(0, 1), halt)...), nil, 0,
		called(0, -1, 0, 1), wrote(1, -1, 0, 0, 1), wentBack(1, -1, 1), done())
}

// TestG1Many: 100 times MaxFuel instructions, and one more.
func TestG1Many(t *testing.T) {
	const loops = (100*api.MaxFuel - 20) / 7
	for pad := range 3 {
		for _, last := range [][]api.Instr{list(halt), list(step(0)), list(number(1), number(0), op(api.ExprDiv))} {
			l := list(number(loops), store(0), load(0), zero(9), load(0), number(1), op(api.ExprSub), store(0), onAt(2))
			for range 100*api.MaxFuel - 4 - 7*loops - len(last) + pad - 1 {
				l = append(l, step(0))
			}
			// so that there is one fuel for each step, but the last one
			fuel := len(l) - 9
			l = append(l, last...)
			c := alone(l...)
			events, ok, e := vm.Run(c, nil, fuel)
			if e != api.OK || ok != (pad < 2) || (len(events) > 0) != ok {
				t.Errorf("%d instructions, at last %v: %v %d", 100*api.MaxFuel+pad-1, last, ok, e)
			}
		}
	}
	expectAstray(t, alone(onAt(0)), nil, api.MaxFuel)
	expectAstray(t, two(nil, list(number(0), back), call(0, 0), zero(0)), nil, 0)
}

// TestG1Wide: however many variables a function has that are not used.
func TestG1Wide(t *testing.T) {
	sizes := make([]int, 1<<20)
	sizes[1<<20-1] = api.MaxSize
	c := two(sizes, list(load(1<<20-2), cell(1<<20-1), back), step(0), call(0, 0), zero(0))
	l, ok, e := vm.Run(c, nil, api.MaxFuel)
	if len(l) != 3*api.MaxFuel+1 || !ok || e != api.OK {
		t.Errorf("%d events %v %d", len(l), ok, e)
	}
}

func TestG1Errors(t *testing.T) {
	good, bad := alone(halt), alone(number(api.Most+1), halt)
	many := make([]int, api.MaxInput+1)
	beyond := append(make([]int, api.MaxInput), api.Most+1)
	for i, row := range []struct {
		c    api.Code
		in   []int
		fuel int
		why  api.Errno
	}{
		{api.Code{}, beyond, -1, api.ErrForm},
		{bad, many, -1, api.ErrRange},
		{alone(instr(15)), many, 0, api.ErrKind},
		{alone(instr(api.CodeHalt, 1)), many, 0, api.ErrForm},
		{alone(slices.Repeat(list(halt), api.MaxCode+1)...), nil, 0, api.ErrMany},
		{alone(slices.Repeat(list(halt), api.MaxCode)...), nil, 0, api.OK},
		{good, many, 0, api.ErrMany},
		{good, many, -1, api.ErrMany},
		{good, beyond, -1, api.ErrMany},
		{good, many[1:], 0, api.OK},
		{good, beyond[1:], 0, api.ErrRange},
		{good, []int{api.Least - 1}, 0, api.ErrRange},
		{good, []int{0, math.MaxInt}, 0, api.ErrRange},
		{good, []int{api.Least, api.Most}, 0, api.OK},
		{good, nil, -1, api.ErrRange},
		{good, nil, math.MinInt, api.ErrRange},
		{good, nil, api.MaxFuel, api.OK},
		{good, nil, api.MaxFuel + 1, api.ErrRange},
	} {
		l, ok, e := vm.Run(row.c, row.in, row.fuel)
		if e != row.why || ok != (e == api.OK) || (len(l) > 0) != ok {
			t.Errorf("%d: %v %v %d, not %d", i, l, ok, e, row.why)
		}
	}
}
