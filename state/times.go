package state

import "hindsight/api"

// variable of a function, in whichever frame.
type variable struct{ fn, number int }

// writesOf each variable, in order.
func writesOf(p api.Program, l []api.Event) map[variable][]api.Value {
	writes := map[variable][]api.Value{}
	funcs := []int{mainOf(p)} // of each frame, for frames are numbered as they are made
	for time, x := range l {
		switch x.Kind {
		case api.EventCall:
			funcs = append(funcs, x.Var)
		case api.EventWrite:
			v := variable{funcs[x.Frame], x.Var}
			writes[v] = append(writes[v], api.Value{Time: time, Frame: x.Frame, Index: x.Index, Value: x.Value})
		}
	}
	return writes
}

// spansOf frame 0 and of each call, in order.
func spansOf(p api.Program, l []api.Event) []api.Span {
	ends := endsOf(l)
	spans := []api.Span{ends.span(api.Span{Func: mainOf(p), By: -1})}
	for time, x := range l {
		if x.Kind == api.EventCall {
			spans = append(spans, ends.span(api.Span{Frame: x.Value, Func: x.Var, By: x.Frame, From: time}))
		}
	}
	return spans
}

// end of a frame: when it was, and what it answered.
type end struct{ time, answer int }

// ends of the frames that ended, by their numbers.
type ends map[int]end

func endsOf(l []api.Event) ends {
	m := ends{}
	for time, x := range l {
		switch {
		case x.Kind == api.EventBack:
			m[x.Frame] = end{time, x.Value}
		case x.Kind == api.EventEnd && x.Value == api.EndDone:
			m[0] = end{time, 0}
		}
	}
	return m
}

// span with its end, if it has one.
func (m ends) span(s api.Span) api.Span {
	s.To = -1
	if e, ok := m[s.Frame]; ok {
		s.To, s.Answer = e.time, e.answer
	}
	return s
}
