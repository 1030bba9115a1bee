package query

import (
	"slices"

	"hindsight/api"
	"hindsight/index"
)

// teller: does something hold at a time? It is asked of all times, rising, and may lean on what it was asked ahead.
type teller func(time int) bool

// marksOf a query: does it hold at each event?
func marksOf(q api.Ask, l []api.Event) []bool {
	var args [][]bool
	for _, a := range q.Args {
		args = append(args, marksOf(a, l))
	}
	holds := tellerOf(q, l, args)
	marks := make([]bool, len(l))
	for time := range marks {
		marks[time] = holds(time)
	}
	return marks
}

// tellerOf a query that passes Check, whose Args have these marks.
func tellerOf(q api.Ask, l []api.Event, args [][]bool) teller {
	switch q.Kind {
	case api.AskStep:
		return isFound(l, api.EventStep, q.N)
	case api.AskWrite:
		return isFound(l, api.EventWrite, q.N)
	case api.AskCall:
		return isFound(l, api.EventCall, q.N)
	case api.AskPrint:
		return isFound(l, api.EventPrint, whatever)
	case api.AskLess:
		return func(time int) bool { return l[time].Value < q.N }
	case api.AskSame:
		return func(time int) bool { return l[time].Value == q.N }
	case api.AskNot:
		return func(time int) bool { return !args[0][time] }
	case api.AskAnd:
		return func(time int) bool { return args[0][time] && args[1][time] }
	case api.AskOr:
		return func(time int) bool { return args[0][time] || args[1][time] }
	case api.AskPrev:
		return func(time int) bool { return time > 0 && args[0][time-1] }
	case api.AskOnce:
		return once(args[0])
	case api.AskAll:
		return all(args[0])
	case api.AskSince:
		return since(args[0], args[1])
	}
	return soon(args[0], q.N)
}

func isFound(l []api.Event, kind, n int) teller {
	times, _ := index.Find(l, kind, n, 0, len(l)) // the kind is one, and there are not too many events
	return func(time int) bool {
		_, ok := slices.BinarySearch(times, time)
		return ok
	}
}

func once(arg []bool) teller {
	held := false
	return func(time int) bool {
		held = held || arg[time]
		return held
	}
}

func all(arg []bool) teller {
	held := true
	return func(time int) bool {
		held = held && arg[time]
		return held
	}
}

// since the second one held, the first one did. When the second one holds, it does not matter whether the first one does.
func since(first, second []bool) teller {
	held := false
	return func(time int) bool {
		held = second[time] || held && first[time]
		return held
	}
}

// soon, at most so many events on. The next time at which it holds is looked for from where the one ahead was found, so that no time is gone through twice.
func soon(arg []bool, most int) teller {
	next := 0
	return func(time int) bool {
		next = max(next, time)
		for next < len(arg) && !arg[next] {
			next++
		}
		return next < len(arg) && next-time <= most
	}
}
