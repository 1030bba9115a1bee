package session

import (
	"iter"
	"slices"

	"hindsight/api"
	"hindsight/code"
	"hindsight/log"
	"hindsight/scope"
	"hindsight/vm"
)

// traceOf a program's text.
func traceOf(s string, in []int, fuel int) ([]api.Event, api.Errno) {
	p, _, why := scope.Program(s)
	if why != api.OK {
		return nil, why
	}
	// What Program answers can be compiled, and what is compiled does not go astray.
	c, _ := code.Compile(p)
	l, _, why := vm.Run(c, in, fuel)
	return l, why
}

// appended: a disk with a trace behind what is there, as far as there is room, and how many events came to it.
func appended(d api.Disk, l []api.Event, batch int) (api.Disk, int, api.Errno) {
	// If there is no room at all, the disk that was handed in is the answer: in memory of its own.
	now := api.Disk{Kept: slices.Clone(d.Kept), Written: slices.Clone(d.Written)}
	count := 0
	for b := range batchesOf(l, batch) {
		next, _, why := log.Append(now, b)
		if why != api.OK {
			return now, count, why
		}
		now = next
		count += len(b)
	}
	return now, count, api.OK
}

// batchesOf a trace: of so many events each; the last one may have fewer.
func batchesOf(l []api.Event, size int) iter.Seq[[]api.Event] {
	return func(yield func(batch []api.Event) bool) {
		for from := 0; from < len(l); from += size {
			if !yield(l[from:min(from+size, len(l))]) {
				return
			}
		}
	}
}

// joined: all events of batches.
func joined(batches [][]api.Event) ([]api.Event, api.Errno) {
	l := slices.Concat(batches...)
	if len(l) > api.MaxTrace {
		return nil, api.ErrMany
	}
	return l, api.OK
}
