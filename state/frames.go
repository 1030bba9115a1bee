package state

import "hindsight/api"

// framesBehind the events of a trace's beginning. All that is written is written in the last frame that there is then: who calls waits.
func framesBehind(p api.Program, l []api.Event) []api.Frame {
	frames := []api.Frame{newFrame(p, 0, mainOf(p))}
	for _, x := range l {
		last := len(frames) - 1
		switch x.Kind {
		case api.EventCall:
			frames = append(frames, newFrame(p, x.Value, x.Var))
		case api.EventBack:
			frames = frames[:last]
		case api.EventWrite:
			frames[last].Vars[x.Var][x.Index] = x.Value
		}
	}
	return frames
}

func newFrame(p api.Program, number, fn int) api.Frame {
	f := api.Frame{Number: number, Func: fn}
	for _, size := range p.Funcs[fn].Sizes {
		f.Vars = append(f.Vars, make([]int, max(size, 1)))
	}
	return f
}
