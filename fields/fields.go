// Package fields: the numbers that an event has, in the order in which api tells them.
package fields

import (
	"slices"

	"hindsight/api"
)

// Count of the numbers of an event.
const Count = 6

// Of an event: its numbers.
func Of(e api.Event) [Count]int {
	return [Count]int{e.Kind, e.Frame, e.At, e.Var, e.Index, e.Value}
}

// Event that has these numbers.
func Event(n [Count]int) api.Event {
	return api.Event{Kind: n[0], Frame: n[1], At: n[2], Var: n[3], Index: n[4], Value: n[5]}
}

// AreWithin: is each number of all these events one of runs?
func AreWithin(l []api.Event) bool {
	isBeyond := func(n int) bool { return n < api.Least || n > api.Most }
	return !slices.ContainsFunc(l, func(e api.Event) bool {
		n := Of(e)
		return slices.ContainsFunc(n[:], isBeyond)
	})
}
