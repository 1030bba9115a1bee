package vm

import (
	"slices"

	"hindsight/api"
	"hindsight/trace"
)

// maxDone is how many instructions may be done.
const maxDone = 100 * api.MaxFuel

// machine that runs code that passes Check.
type machine struct {
	api.Code
	in     []int    // what did not come in yet
	fuel   int      // steps that are left
	made   int      // frames
	frames []*frame // those in one another
	events []api.Event
	ended  bool
}

// run until all ends; false, if it goes astray.
func (m *machine) run() bool {
	for range maxDone {
		f := m.frame()
		if f.next == len(m.Instrs) || !m.canDo(f, m.Instrs[f.next]) {
			return false
		}
		f.next++
		m.do(f, m.Instrs[f.next-1])
		if m.ended {
			return true
		}
	}
	return false
}

// frame that is running.
func (m *machine) frame() *frame { return m.frames[len(m.frames)-1] }

// enter a new frame of a function.
func (m *machine) enter(n int) *frame {
	f := &frame{number: m.made, at: -1, next: m.First[n], sizes: m.Sizes[n], vars: map[int][]int{}}
	m.made++
	m.frames = append(m.frames, f)
	return f
}

// canDo: does an instruction not go astray? How it is done need not ask again.
func (m *machine) canDo(f *frame, i api.Instr) bool {
	if len(f.pile) < takes(i) {
		return false
	}
	switch i.Kind {
	case api.CodeConst:
		return len(f.pile) < maxPile
	case api.CodeLoad:
		return len(f.pile) < maxPile && f.hasPlain(i.A)
	case api.CodeStore, api.CodeRead:
		return f.hasPlain(i.A)
	case api.CodeCell, api.CodePut:
		return f.hasArray(i.A)
	case api.CodeCall:
		return i.B <= len(m.Sizes[i.A]) && !slices.ContainsFunc(m.Sizes[i.A][:i.B], func(size int) bool { return size != 0 })
	case api.CodeBack:
		return len(m.frames) > 1 && len(m.frames[len(m.frames)-2].pile) < maxPile
	case api.CodeHalt:
		return len(m.frames) == 1
	}
	return true
}

func (m *machine) do(f *frame, i api.Instr) {
	switch i.Kind {
	case api.CodeStep:
		m.step(f, i.A)
	case api.CodeConst:
		f.push(i.A)
	case api.CodeLoad:
		f.push(f.cells(i.A)[0])
	case api.CodeCell:
		m.cell(f, i.A)
	case api.CodeOp:
		m.join(f, i.A)
	case api.CodeStore:
		m.write(f, f.at, i.A, 0, f.pop())
	case api.CodePut:
		m.put(f, i.A)
	case api.CodeRead:
		m.read(f, i.A)
	case api.CodePrint:
		m.tell(f, api.Event{Kind: api.EventPrint, At: f.at, Value: f.pop()})
	case api.CodeGoto:
		f.next = i.A
	case api.CodeZero:
		if f.pop() == 0 {
			f.next = i.A
		}
	case api.CodeCall:
		m.call(f, i.A, i.B)
	case api.CodeBack:
		m.back(f)
	case api.CodeHalt:
		m.end(f, -1, api.EndDone)
	}
}

func (m *machine) tell(f *frame, x api.Event) {
	x.Frame = f.number
	m.events = append(m.events, x)
}

func (m *machine) end(f *frame, at, how int) {
	m.tell(f, api.Event{Kind: api.EventEnd, At: at, Value: how})
	m.ended = true
}

func (m *machine) step(f *frame, at int) {
	if m.fuel == 0 {
		m.end(f, at, api.EndFuel)
		return
	}
	m.fuel--
	f.at = at
	m.tell(f, api.Event{Kind: api.EventStep, At: at})
}

func (m *machine) cell(f *frame, v int) {
	n := f.pop()
	if n < 0 || n >= f.sizes[v] {
		m.end(f, f.at, api.EndIndex)
		return
	}
	f.push(f.cells(v)[n])
}

// join the two topmost ones as an expression of that kind does.
func (m *machine) join(f *frame, kind int) {
	two := f.popAll(2)
	e := api.Expr{Kind: kind, Args: []api.Expr{{Kind: api.ExprName, N: 0}, {Kind: api.ExprName, N: 1}}}
	value, how, _ := trace.Eval(e, [][]int{two[:1], two[1:]})
	if how != api.EndDone {
		m.end(f, f.at, how)
		return
	}
	f.push(value)
}

// write what a variable's cell becomes. At is said by who calls, for that of a parameter is none of its frame.
func (m *machine) write(f *frame, at, v, index, value int) {
	f.cells(v)[index] = value
	m.tell(f, api.Event{Kind: api.EventWrite, At: at, Var: v, Index: index, Value: value})
}

func (m *machine) put(f *frame, v int) {
	two := f.popAll(2)
	if two[0] < 0 || two[0] >= f.sizes[v] {
		m.end(f, f.at, api.EndIndex)
		return
	}
	m.write(f, f.at, v, two[0], two[1])
}

func (m *machine) read(f *frame, v int) {
	value := 0
	if len(m.in) > 0 {
		value, m.in = m.in[0], m.in[1:]
	}
	m.tell(f, api.Event{Kind: api.EventRead, At: f.at, Value: value})
	m.write(f, f.at, v, 0, value)
}

func (m *machine) call(f *frame, n, params int) {
	args := f.popAll(params)
	if len(m.frames) == api.MaxFrames {
		m.end(f, f.at, api.EndDeep)
		return
	}
	g := m.enter(n)
	m.tell(f, api.Event{Kind: api.EventCall, At: f.at, Var: n, Value: g.number})
	for v, a := range args {
		m.write(g, f.at, v, 0, a)
	}
}

func (m *machine) back(f *frame) {
	value := f.pop()
	m.frames = m.frames[:len(m.frames)-1]
	by := m.frame()
	m.tell(f, api.Event{Kind: api.EventBack, At: by.at, Value: value})
	by.push(value)
}
