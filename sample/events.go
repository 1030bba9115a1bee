package sample

import (
	"hindsight/api"
	"hindsight/fields"
)

// Events, so many, whose numbers are those of runs. They need not be what a program does.
func Events(draw Draw, count int) []api.Event {
	var l []api.Event
	for range count {
		var n [fields.Count]int
		for i := range n {
			n[i] = ofRuns(draw)
		}
		l = append(l, fields.Event(n))
	}
	return l
}

// ofRuns: a number of runs, with few digits as often as with many.
func ofRuns(draw Draw) int {
	n := draw(1 << (1 + draw(31)))
	if draw(2) == 0 {
		return -1 - n
	}
	return n
}
