package vm_test

import "hindsight/api"

// machine that runs code as chapter 7 says, made as plainly as can be, to hold Run against.
type machine struct {
	api.Code
	in     []int
	fuel   int
	done   int // instructions
	frames []*place
	made   int
	events []api.Event
}

// place where a frame is.
type place struct {
	number, function, next, at int
	pile                       []int
	vars                       [][]int
}

// astray: a panic of this, and a machine does what code must not do.
type astray string

func must(is bool, what astray) {
	if !is {
		panic(what)
	}
}

// runs code: its events, and how it went astray, if it did.
func runs(c api.Code, in []int, fuel int) (l []api.Event, wrong astray) {
	m := &machine{Code: c, in: in, fuel: fuel}
	defer func() {
		if what := recover(); what != nil {
			l, wrong = nil, what.(astray)
		}
	}()
	m.enter(len(c.First)-1, nil)
	for len(m.events) == 0 || m.events[len(m.events)-1].Kind != api.EventEnd {
		m.one()
	}
	return m.events, ""
}

func (m *machine) top() *place { return m.frames[len(m.frames)-1] }

func (m *machine) tell(frame, at, kind, v, index, value int) {
	m.events = append(m.events, api.Event{Kind: kind, Frame: frame, At: at, Var: v, Index: index, Value: value})
}

func (m *machine) ends(how int) { m.tell(m.top().number, m.top().at, api.EventEnd, 0, 0, how) }

func (m *machine) enter(f int, args []int) {
	p := &place{number: m.made, function: f, next: m.First[f], at: -1}
	m.made++
	for _, size := range m.Sizes[f] {
		p.vars = append(p.vars, make([]int, max(1, size)))
	}
	for i, a := range args {
		p.vars[i][0] = a
		m.tell(p.number, m.top().at, api.EventWrite, i, 0, a)
	}
	m.frames = append(m.frames, p)
}

func (m *machine) pop() int {
	p := m.top()
	must(len(p.pile) > 0, "nothing is on the pile")
	n := p.pile[len(p.pile)-1]
	p.pile = p.pile[:len(p.pile)-1]
	return n
}

func (m *machine) push(n int) {
	m.top().pile = append(m.top().pile, n)
	must(len(m.top().pile) <= 64, "more than 64 are on a pile")
}

// cells of a variable that must be an array, or none.
func (m *machine) cells(n int, isArray bool) []int {
	p := m.top()
	must(n < len(p.vars), "no such variable")
	must((m.Sizes[p.function][n] != 0) == isArray, "an array, or none")
	return p.vars[n]
}

func (m *machine) write(v, index, value int, cells []int) {
	cells[index] = value
	m.tell(m.top().number, m.top().at, api.EventWrite, v, index, value)
}

// one instruction.
func (m *machine) one() {
	p := m.top()
	must(p.next < len(m.Instrs), "behind the last instruction")
	m.done++
	must(m.done <= 100*api.MaxFuel, "too many instructions")
	i := m.Instrs[p.next]
	p.next++
	switch i.Kind {
	case api.CodeStep:
		if m.fuel == 0 {
			m.tell(p.number, i.A, api.EventEnd, 0, 0, api.EndFuel)
			return
		}
		m.fuel--
		p.at = i.A
		m.tell(p.number, p.at, api.EventStep, 0, 0, 0)
	case api.CodeConst:
		m.push(i.A)
	case api.CodeLoad:
		m.push(m.cells(i.A, false)[0])
	case api.CodeCell:
		if c, n := m.cells(i.A, true), m.pop(); n < 0 || n >= len(c) {
			m.ends(api.EndIndex)
		} else {
			m.push(c[n])
		}
	case api.CodeOp:
		m.op(i.A)
	case api.CodeStore:
		m.write(i.A, 0, m.pop(), m.cells(i.A, false))
	case api.CodePut:
		value, n, c := m.pop(), m.pop(), m.cells(i.A, true)
		if n < 0 || n >= len(c) {
			m.ends(api.EndIndex)
		} else {
			m.write(i.A, n, value, c)
		}
	default:
		m.other(i)
	}
}

// other instructions: those that go out of a frame.
func (m *machine) other(i api.Instr) {
	p := m.top()
	switch i.Kind {
	case api.CodeRead:
		n := 0
		if len(m.in) > 0 {
			n, m.in = m.in[0], m.in[1:]
		}
		m.tell(p.number, p.at, api.EventRead, 0, 0, n)
		m.write(i.A, 0, n, m.cells(i.A, false))
	case api.CodePrint:
		m.tell(p.number, p.at, api.EventPrint, 0, 0, m.pop())
	case api.CodeGoto:
		p.next = i.A
	case api.CodeZero:
		if m.pop() == 0 {
			p.next = i.A
		}
	case api.CodeCall:
		args := make([]int, i.B)
		for k := range args {
			args[i.B-1-k] = m.pop()
			must(i.B <= len(m.Sizes[i.A]), "more parameters than variables")
			must(m.Sizes[i.A][k] == 0, "a parameter is an array")
		}
		if len(m.frames) == api.MaxFrames {
			m.ends(api.EndDeep)
			return
		}
		m.tell(p.number, p.at, api.EventCall, i.A, 0, m.made)
		m.enter(i.A, args)
	case api.CodeBack:
		must(len(m.frames) > 1, "CodeBack in frame 0")
		n := m.pop()
		m.frames = m.frames[:len(m.frames)-1]
		m.tell(p.number, m.top().at, api.EventBack, 0, 0, n)
		m.push(n)
	case api.CodeHalt:
		must(len(m.frames) == 1, "CodeHalt in another frame")
		m.tell(0, -1, api.EventEnd, 0, 0, api.EndDone)
	}
}

func (m *machine) op(kind int) {
	b, a := int32(m.pop()), int32(m.pop())
	if b == 0 && (kind == api.ExprDiv || kind == api.ExprRest) {
		m.ends(api.EndZero)
		return
	}
	switch kind {
	case api.ExprAdd:
		a += b
	case api.ExprSub:
		a -= b
	case api.ExprMul:
		a *= b
	case api.ExprDiv:
		a /= b
	case api.ExprRest:
		a %= b
	default:
		if kind == api.ExprLess && a < b || kind == api.ExprSame && a == b {
			a = 1
		} else {
			a = 0
		}
	}
	m.push(int(a))
}
