package log

import (
	"hindsight/api"
	"hindsight/fields"
)

// Marks of sectors: what each one has ahead of its numbers. The first sector is the head: it tells how many batches there are. Behind it they lie, one behind the other, each with a sector that tells how many events it has, then one for each event. So a batch is there as soon as the head is another one: that is one sector, which is kept whole, or not at all.
const (
	headMark  = "batches:"
	batchMark = "events: "
	eventMark = "event:  "
)

// wide: how many bytes a number has.
const wide = 4

// head of a disk that has so many batches.
func head(batches int) string {
	return sector(headMark, [fields.Count]int{batches})
}

// laid: the sectors of a batch.
func laid(l []api.Event) []string {
	sectors := []string{sector(batchMark, [fields.Count]int{len(l)})}
	for _, e := range l {
		sectors = append(sectors, sector(eventMark, fields.Of(e)))
	}
	return sectors
}

// batchesOf what sectors keep, and the sectors that are free; false, if no batches lie so.
func batchesOf(kept []string) ([][]api.Event, []string, bool) {
	n, ok := numbers(headMark, kept[0])
	if !ok {
		return nil, nil, false
	}
	var batches [][]api.Event
	rest := kept[1:]
	for range n[0] {
		l, ok := batchAt(rest)
		if !ok {
			return nil, nil, false
		}
		batches = append(batches, l)
		rest = rest[1+len(l):]
	}
	return batches, rest, true
}

// batchAt the beginning of sectors.
func batchAt(kept []string) ([]api.Event, bool) {
	if len(kept) == 0 {
		return nil, false
	}
	n, ok := numbers(batchMark, kept[0])
	if !ok || n[0] < 0 || n[0] > len(kept)-1 {
		return nil, false
	}
	var l []api.Event
	for _, s := range kept[1 : 1+n[0]] {
		n, ok := numbers(eventMark, s)
		if !ok {
			return nil, false
		}
		l = append(l, fields.Event(n))
	}
	return l, true
}

// sector of a mark and numbers.
func sector(mark string, l [fields.Count]int) string {
	s := []byte(mark)
	for _, n := range l {
		for i := range wide {
			s = append(s, byte(n>>(8*i)))
		}
	}
	return string(s)
}

// numbers of a sector that has a mark.
func numbers(mark, s string) ([fields.Count]int, bool) {
	if s[:len(mark)] != mark {
		return [fields.Count]int{}, false
	}
	var l [fields.Count]int
	for i := range l {
		l[i] = number(s[len(mark)+i*wide:])
	}
	return l, true
}

// number that a text begins with.
func number(s string) int {
	n := int32(0)
	for i := range wide {
		n |= int32(s[i]) << (8 * i)
	}
	return int(n)
}
