package trace

import "hindsight/api"

// runner of a program that passes Check.
type runner struct {
	funcs  []api.Func
	in     []int // what did not come in yet
	fuel   int   // steps that are left
	made   int   // frames beside frame 0
	events []api.Event
	ended  bool // behind the end nothing is told any more
}

// frame of a function: deep, how many it is in; at, the command of its last step.
type frame struct {
	number, deep, at int
	vars             [][]int
}

func newFrame(number, deep int, sizes []int) *frame {
	f := frame{number: number, deep: deep, at: -1}
	for _, size := range sizes {
		f.vars = append(f.vars, make([]int, max(size, 1)))
	}
	return &f
}

func (r *runner) tell(x api.Event) {
	if !r.ended {
		r.events = append(r.events, x)
	}
}

func (r *runner) end(f *frame, at, how int) {
	r.tell(api.Event{Kind: api.EventEnd, Frame: f.number, At: at, Value: how})
	r.ended = true
}

func (r *runner) main() {
	last := len(r.funcs) - 1
	f := newFrame(0, 0, r.funcs[last].Sizes)
	r.function(f, last)
	r.end(f, -1, api.EndDone)
}

// function's commands. The first one is numbered behind those of all functions ahead.
func (r *runner) function(f *frame, n int) {
	first := 0
	for _, ahead := range r.funcs[:n] {
		first += count(ahead.Cmds)
	}
	r.cmds(f, r.funcs[n].Cmds, first)
}

// count commands, those in them too.
func count(l []api.Cmd) int {
	n := len(l)
	for _, c := range l {
		n += count(c.Then) + count(c.Else)
	}
	return n
}

// cmds of a frame, the first one numbered at.
func (r *runner) cmds(f *frame, l []api.Cmd, at int) {
	for _, c := range l {
		if r.ended {
			return
		}
		r.cmd(f, c, at)
		at += 1 + count(c.Then) + count(c.Else)
	}
}

func (r *runner) cmd(f *frame, c api.Cmd, at int) {
	r.step(f, at)
	switch c.Kind {
	case api.CmdSet:
		r.write(f, f.at, c.Var, 0, r.value(f, c.Expr))
	case api.CmdPut:
		r.put(f, c)
	case api.CmdCall:
		r.call(f, c)
	case api.CmdRead:
		r.read(f, c.Var)
	case api.CmdPrint:
		r.tell(api.Event{Kind: api.EventPrint, Frame: f.number, At: f.at, Value: r.value(f, c.Expr)})
	case api.CmdIf:
		if r.value(f, c.Expr) != 0 {
			r.cmds(f, c.Then, at+1)
		} else {
			r.cmds(f, c.Else, at+1+count(c.Then))
		}
	case api.CmdWhile:
		for r.value(f, c.Expr) != 0 {
			r.cmds(f, c.Then, at+1)
			r.step(f, at)
		}
	}
}

func (r *runner) step(f *frame, at int) {
	if r.fuel == 0 {
		r.end(f, at, api.EndFuel)
		return
	}
	r.fuel--
	f.at = at
	r.tell(api.Event{Kind: api.EventStep, Frame: f.number, At: at})
}

// value of an expression: 0, if all has ended, by it or ahead of it, so that no loop goes on.
func (r *runner) value(f *frame, e api.Expr) int {
	if r.ended {
		return 0
	}
	value, how := reckon(e, f.vars)
	if how != api.EndDone {
		r.end(f, f.at, how)
	}
	return value
}

// write what a variable's cell becomes. At is said by who calls, for that of a parameter is none of its frame.
func (r *runner) write(f *frame, at, v, index, value int) {
	f.vars[v][index] = value
	r.tell(api.Event{Kind: api.EventWrite, Frame: f.number, At: at, Var: v, Index: index, Value: value})
}

func (r *runner) put(f *frame, c api.Cmd) {
	index := r.value(f, c.Index)
	value := r.value(f, c.Expr)
	if !isCell(index, f.vars[c.Var]) {
		r.end(f, f.at, api.EndIndex)
		return
	}
	r.write(f, f.at, c.Var, index, value)
}

func (r *runner) read(f *frame, v int) {
	value := 0
	if len(r.in) > 0 {
		value, r.in = r.in[0], r.in[1:]
	}
	r.tell(api.Event{Kind: api.EventRead, Frame: f.number, At: f.at, Value: value})
	r.write(f, f.at, v, 0, value)
}

func (r *runner) call(f *frame, c api.Cmd) {
	var args []int
	for _, a := range c.Args {
		args = append(args, r.value(f, a))
	}
	if f.deep+1 == api.MaxFrames {
		r.end(f, f.at, api.EndDeep)
		return
	}
	r.made++
	g := newFrame(r.made, f.deep+1, r.funcs[c.Func].Sizes)
	r.tell(api.Event{Kind: api.EventCall, Frame: f.number, At: f.at, Var: c.Func, Value: g.number})
	for i, a := range args {
		r.write(g, f.at, i, 0, a)
	}
	r.function(g, c.Func)
	answer := r.value(g, r.funcs[c.Func].Result)
	r.tell(api.Event{Kind: api.EventBack, Frame: g.number, At: f.at, Value: answer})
	r.write(f, f.at, c.Var, 0, answer)
}
