package session_test

import (
	"math"
	"math/rand"
	"slices"
	"strings"
	"testing"

	"hindsight/api"
	"hindsight/disk"
	"hindsight/log"
	"hindsight/sample"
	"hindsight/scope"
	"hindsight/session"
	"hindsight/trace"
)

const (
	nothing = "main {}"
	twice   = "func twice(n) { return (n + n); } main { var x; arr a 2; x = read; a[1] = (x * 3); x = twice(a[1]); print x; }"
	loop    = "main { var x; while 1 { x = (x + 1); } }"
)

func formatted(t *testing.T, sectors int) api.Disk {
	t.Helper()
	d, e := log.Format(sectors)
	if e != api.OK {
		t.Fatalf("Format(%d): %d", sectors, e)
	}
	return d
}

// traced: what a text's program does.
func traced(t *testing.T, s string, in []int, fuel int) []api.Event {
	t.Helper()
	p, at, e := scope.Program(s)
	if e != api.OK {
		t.Fatalf("%s: %d at %d", s, e, at)
	}
	l, e := trace.Run(p, in, fuel)
	if e != api.OK {
		t.Fatalf("Run of %s: %d", s, e)
	}
	return l
}

func opened(t *testing.T, d api.Disk) [][]api.Event {
	t.Helper()
	l, e := log.Open(d)
	if e != api.OK {
		t.Fatalf("Open: %d", e)
	}
	return l
}

func areSame(a, b [][]api.Event) bool { return slices.EqualFunc(a, b, slices.Equal) }

func areSameDisks(a, b api.Disk) bool {
	return slices.Equal(a.Kept, b.Kept) && slices.Equal(a.Written, b.Written)
}

// run that is recorded.
type run struct {
	s           string
	in          []int
	fuel, batch int
}

func record(d api.Disk, r run) (api.Disk, int, api.Errno) {
	return session.Record(d, r.s, r.in, r.fuel, r.batch)
}

// expectRecorded: a trace was cut into batches, which came to the disk one by one, up to the first one for which there was no room.
func expectRecorded(t *testing.T, d api.Disk, r run) (api.Disk, api.Errno) {
	t.Helper()
	want, why := d, api.OK
	batches, count := opened(t, d), 0
	for rest := traced(t, r.s, r.in, r.fuel); len(rest) > 0; {
		b := rest[:min(r.batch, len(rest))]
		next, _, e := log.Append(want, b)
		if e != api.OK {
			why = e
			break
		}
		want, rest = next, rest[len(b):]
		batches, count = append(batches, b), count+len(b)
	}
	x, n, e := record(d, r)
	if n != count || e != why || !areSame(opened(t, x), batches) || !areSameDisks(x, want) {
		t.Fatalf("Record(%+v): %d events, %d, not %d events, %d; batches %v, not %v", r, n, e, count, why, opened(t, x), batches)
	}
	expectReopened(t, x, slices.Concat(batches...))
	return x, e
}

func expectReopened(t *testing.T, d api.Disk, want []api.Event) {
	t.Helper()
	if l, e := session.Reopen(d); e != api.OK || !slices.Equal(l, want) {
		t.Fatalf("Reopen: %v %d, not %v", l, e, want)
	}
}

func sizes(batches [][]api.Event) []int {
	var l []int
	for _, b := range batches {
		l = append(l, len(b))
	}
	return l
}

func TestO1Example(t *testing.T) {
	for batch, want := range map[int][]int{
		1: slices.Repeat([]int{1}, 13), 2: {2, 2, 2, 2, 2, 2, 1}, 4: {4, 4, 4, 1}, 5: {5, 5, 3}, 6: {6, 6, 1}, 7: {7, 6}, 12: {12, 1}, 13: {13}, 14: {13}, api.MaxBatch: {13},
	} {
		d, n, e := session.Record(formatted(t, 100), twice, []int{5}, api.MaxFuel, batch)
		l := opened(t, d)
		if n != 13 || e != api.OK || !slices.Equal(sizes(l), want) || !slices.Equal(slices.Concat(l...), traced(t, twice, []int{5}, api.MaxFuel)) {
			t.Errorf("in batches of %d: %v, %d events, %d", batch, l, n, e)
		}
		if len(d.Written) > 0 || disk.Check(d) != api.OK {
			t.Errorf("in batches of %d: not all is kept", batch)
		}
	}
}

// TestO1Sizes: each size of batches, and traces of so many events that the last batch is full, or has one event, or lacks one.
func TestO1Sizes(t *testing.T) {
	for batch := 1; batch <= api.MaxBatch; batch++ {
		for _, fuel := range []int{0, 1, 2, batch / 2, 29, 30, 40, 59, 60, 61} {
			expectRecorded(t, formatted(t, api.MaxSectors), run{loop, nil, fuel, batch})
		}
	}
}

func TestO1Nothing(t *testing.T) {
	d, n, e := session.Record(formatted(t, 10), nothing, nil, 0, 1)
	if n != 1 || e != api.OK {
		t.Errorf("%d events, %d", n, e)
	}
	expectReopened(t, d, []api.Event{{Kind: api.EventEnd, At: -1, Value: api.EndDone}})
	expectReopened(t, formatted(t, 10), nil)
}

// TestO1Again: a disk that has batches already keeps them, and has those of a run behind.
func TestO1Again(t *testing.T) {
	d := formatted(t, 200)
	for _, r := range []run{{twice, []int{5}, 40, 3}, {nothing, nil, 0, 1}, {twice, nil, 2, api.MaxBatch}, {loop, nil, 20, 7}, {twice, []int{5}, 40, 3}} {
		d, _ = expectRecorded(t, d, r)
	}
	d, _, _ = log.Append(d, nil)
	d, _, _ = log.Append(d, []api.Event{{Kind: api.Most, Value: api.Least}})
	d, e := expectRecorded(t, d, run{twice, []int{5}, 40, 9})
	if want := []int{3, 3, 3, 3, 1, 1, 6, 7, 7, 7, 7, 3, 3, 3, 3, 3, 1, 0, 1, 9, 4}; e != api.OK || !slices.Equal(sizes(opened(t, d)), want) {
		t.Errorf("%d, %v, not %v", e, sizes(opened(t, d)), want)
	}
}

// TestO1Space: no room for the first batch, or for a later one, or just room for all.
func TestO1Space(t *testing.T) {
	found := [3]int{}
	for sectors := 4; sectors < 80; sectors++ {
		for _, batch := range []int{1, 2, 3, 5, 8, 13, 20, api.MaxBatch} {
			d := formatted(t, sectors)
			x, e := expectRecorded(t, d, run{loop, nil, 20, batch})
			n := len(opened(t, x))
			switch {
			case e == api.OK:
				found[2]++
			case e != api.ErrSpace:
				t.Fatalf("%d sectors, batches of %d: %d", sectors, batch, e)
			case n == 0:
				found[0]++
			default:
				found[1]++
			}
			// for so many there is room in any case (I1)
			if e != api.OK && 4+(n+1)*(2+batch) <= sectors {
				t.Errorf("%d sectors, %d batches of %d: no room is told", sectors, n, batch)
			}
		}
	}
	if min(found[0], found[1], found[2]) < 50 {
		t.Errorf("%v", found)
	}
}

// TestO1SpaceEnds: behind a batch that has no room nothing is tried, though the last one, which has fewer events, would have some.
func TestO1SpaceEnds(t *testing.T) {
	d := formatted(t, 40)
	for len(opened(t, d)) < 20 {
		next, _, e := log.Append(d, make([]api.Event, 1))
		if e != api.OK {
			break
		}
		d = next
		want := opened(t, d)
		x, n, e := session.Record(d, twice, []int{5}, 40, 6)
		if e != api.OK && e != api.ErrSpace || e == api.ErrSpace && n%6 != 0 {
			t.Fatalf("%d events, %d", n, e)
		}
		expectReopened(t, x, append(slices.Concat(want...), traced(t, twice, []int{5}, 40)[:n]...))
		expectRecorded(t, d, run{twice, []int{5}, 40, 6})
	}
	// Once more, for a disk on which just one more event has room.
	for {
		next, _, e := log.Append(d, make([]api.Event, 1))
		if e != api.OK {
			break
		}
		d = next
		expectRecorded(t, d, run{twice, []int{5}, 40, 12})
		expectRecorded(t, d, run{twice, []int{5}, 40, 1})
	}
	if x, n, e := session.Record(d, twice, []int{5}, 40, 1); n != 0 || e != api.ErrSpace || !areSameDisks(x, d) {
		t.Errorf("a full disk: %d events, %d", n, e)
	}
}

// TestO1Crash: a run that found no room may be recorded on another disk; and whatever crash there is behind, all that was told to be there is there.
func TestO1Crash(t *testing.T) {
	for _, sectors := range []int{10, 15, 20, 60} {
		d, n, _ := session.Record(formatted(t, sectors), twice, []int{5}, 40, 3)
		for _, keep := range [][]bool{nil, {true}, {true, true, true}} {
			x, _ := disk.Crash(d, keep)
			expectReopened(t, x, traced(t, twice, []int{5}, 40)[:n])
		}
	}
}

// TestO1Written: what was written to a disk, and is not kept, is not there; and a run is recorded behind what is.
func TestO1Written(t *testing.T) {
	d, _, _ := session.Record(formatted(t, 60), twice, []int{5}, 40, 3)
	for i := range d.Kept {
		x, _ := disk.Write(d, i, strings.Repeat("x", api.SectorSize))
		expectReopened(t, x, traced(t, twice, []int{5}, 40))
		expectRecorded(t, x, run{loop, nil, 5, 4})
		// nothing comes to it: it is as it was
		if y, n, e := session.Record(x, loop, nil, 40, api.MaxBatch); n != 0 || e != api.ErrSpace || !areSameDisks(y, x) {
			t.Errorf("sector %d: %d events, %d", i, n, e)
		}
	}
}

func TestO1Errors(t *testing.T) {
	ours, full := formatted(t, 20), formatted(t, 4)
	full, _, _ = log.Append(full, make([]api.Event, 2))
	blank, _ := disk.New(20)
	many, wrong := make([]int, api.MaxInput+1), []int{api.Most + 1}
	long := strings.Repeat(" ", api.MaxText+1)
	for _, row := range []struct {
		what string
		d    api.Disk
		r    run
		want api.Errno
	}{
		{"no text", ours, run{"", nil, 1, 1}, api.ErrForm},
		{"a text that is too long", ours, run{long, nil, 1, 1}, api.ErrMany},
		{"a name that is not there", ours, run{"main { x = 1; }", nil, 1, 1}, api.ErrNone},
		{"a name twice", ours, run{"main { var x; var x; }", nil, 1, 1}, api.ErrTwice},
		{"an array", ours, run{"main { arr x 1; x = 1; }", nil, 1, 1}, api.ErrKind},
		{"too great an array", ours, run{"main { arr x 9; }", nil, 1, 1}, api.ErrRange},
		{"the text first", api.Disk{}, run{"main { x = 1; }", many, -1, 0}, api.ErrNone},
		{"the text first", blank, run{"", wrong, -1, 0}, api.ErrForm},
		{"the text ahead of batch", ours, run{"", nil, 1, 0}, api.ErrForm},
		{"the text ahead of the disk", blank, run{"", nil, 1, 1}, api.ErrForm},
		{"too many numbers", ours, run{nothing, many, 1, 1}, api.ErrMany},
		{"too many numbers, wrong fuel", ours, run{nothing, many, -1, 1}, api.ErrMany},
		{"too many numbers, ahead of batch", ours, run{nothing, many, 1, 0}, api.ErrMany},
		{"too many numbers, ahead of the disk", blank, run{nothing, many, 1, 1}, api.ErrMany},
		{"too great a number", ours, run{nothing, wrong, 1, 1}, api.ErrRange},
		{"too small a number", ours, run{nothing, []int{0, api.Least - 1}, 1, 1}, api.ErrRange},
		{"a number ahead of the disk", blank, run{nothing, wrong, 1, 1}, api.ErrRange},
		{"too little fuel", ours, run{nothing, nil, -1, 1}, api.ErrRange},
		{"too much fuel", ours, run{nothing, nil, api.MaxFuel + 1, 1}, api.ErrRange},
		{"fuel ahead of the disk", blank, run{nothing, nil, math.MinInt, 1}, api.ErrRange},
		{"no batch", ours, run{nothing, nil, 1, 0}, api.ErrRange},
		{"less than none", ours, run{nothing, nil, 1, -1}, api.ErrRange},
		{"the least number", ours, run{nothing, nil, 1, math.MinInt}, api.ErrRange},
		{"too great a batch", ours, run{nothing, nil, 1, api.MaxBatch + 1}, api.ErrRange},
		{"the greatest number", ours, run{nothing, nil, 1, math.MaxInt}, api.ErrRange},
		{"batch ahead of the disk", blank, run{nothing, nil, 1, 0}, api.ErrRange},
		{"batch ahead of the disk", api.Disk{Kept: []string{"x"}}, run{nothing, nil, 1, api.MaxBatch + 1}, api.ErrRange},
		{"batch ahead of room", full, run{nothing, nil, 1, 0}, api.ErrRange},
		{"no disk", api.Disk{}, run{nothing, nil, 1, 1}, api.ErrRange},
		{"a short sector", api.Disk{Kept: []string{"x"}}, run{nothing, nil, 1, 1}, api.ErrForm},
		{"too many written", api.Disk{Kept: ours.Kept, Written: make([]api.Written, api.MaxSectors+1)}, run{nothing, nil, 1, 1}, api.ErrMany},
		{"written to none", api.Disk{Kept: ours.Kept, Written: []api.Written{{Sector: 20, Bytes: ours.Kept[0]}}}, run{nothing, nil, 1, 1}, api.ErrNone},
		{"a disk of no batches", blank, run{nothing, nil, 1, 1}, api.ErrState},
		{"one without room, too", api.Disk{Kept: blank.Kept[:1]}, run{loop, nil, 50, api.MaxBatch}, api.ErrState},
	} {
		if d, n, e := record(row.d, row.r); e != row.want || n != 0 || len(d.Kept)+len(d.Written) > 0 {
			t.Errorf("%s: %v, %d events, %d, not %d", row.what, d, n, e, row.want)
		}
	}
	for _, r := range []run{{nothing, make([]int, api.MaxInput), api.MaxFuel, api.MaxBatch}, {nothing, []int{api.Least, api.Most}, 0, 1}} {
		if _, n, e := record(ours, r); n != 1 || e != api.OK {
			t.Errorf("%+v: %d events, %d", r, n, e)
		}
	}
}

func TestO2Errors(t *testing.T) {
	ours := formatted(t, 20)
	blank, _ := disk.New(20)
	for _, row := range []struct {
		d    api.Disk
		want api.Errno
	}{
		{api.Disk{}, api.ErrRange},
		{api.Disk{Kept: make([]string, api.MaxSectors+1)}, api.ErrRange},
		{api.Disk{Kept: []string{"x"}}, api.ErrForm},
		{api.Disk{Kept: ours.Kept, Written: make([]api.Written, api.MaxSectors+1)}, api.ErrMany},
		{api.Disk{Kept: ours.Kept, Written: []api.Written{{Sector: -1, Bytes: ours.Kept[0]}}}, api.ErrNone},
		{api.Disk{Kept: ours.Kept, Written: []api.Written{{Sector: 1}}}, api.ErrForm},
		{blank, api.ErrState},
	} {
		if l, e := session.Reopen(row.d); e != row.want || len(l) > 0 {
			t.Errorf("Reopen(%v): %v %d, not %d", row.d, l, e, row.want)
		}
		if s, e := session.Answer(row.d, "", strings.Repeat("x", api.MaxText+1)); e != row.want || s != "" {
			t.Errorf("Answer(%v): %q %d, not %d", row.d, s, e, row.want)
		}
	}
}

// TestO2Batches: whatever events there are, they are reopened in their order, those of empty batches, too.
func TestO2Batches(t *testing.T) {
	r := rand.New(rand.NewSource(1))
	for range 30 {
		d := formatted(t, api.MaxSectors)
		var want []api.Event
		for {
			l := sample.Events(r.Intn, r.Intn(1+r.Intn(api.MaxBatch+1)))
			next, _, e := log.Append(d, l)
			if e != api.OK {
				break
			}
			d, want = next, append(want, l...)
		}
		expectReopened(t, d, want)
	}
}

// TestO4: what was recorded is reopened, and is what the program does.
func TestO4(t *testing.T) {
	r := rand.New(rand.NewSource(2))
	found := [2]int{}
	for range 400 {
		s, in := sample.Text(r.Intn), []int{r.Intn(3), r.Intn(9) - 4, api.Most, api.Least}[:r.Intn(5)]
		fuel, batch := r.Intn(60), 1+r.Intn(api.MaxBatch)
		d := formatted(t, 4+r.Intn(1+r.Intn(60)))
		x, n, e := session.Record(d, s, in, fuel, batch)
		l := traced(t, s, in, fuel)
		if e == api.OK && n == len(l) {
			found[0]++
		} else if e == api.ErrSpace && n < len(l) && n%batch == 0 {
			found[1]++
		} else {
			t.Fatalf("%s: %d events of %d, %d", s, n, len(l), e)
		}
		expectReopened(t, x, l[:n])
		expectReopened(t, d, nil)
		if text, e := session.Answer(x, s, "print"); e != api.OK || text == "other\n" {
			t.Fatalf("%s: %q %d", s, text, e)
		}
	}
	if min(found[0], found[1]) < 30 {
		t.Errorf("%v", found)
	}
}

// TestP2Disks: disks and events that went out may be changed, and those that came in, too.
func TestP2Disks(t *testing.T) {
	d, in := formatted(t, 40), []int{5, 6}
	d, _ = disk.Write(d, 3, strings.Repeat("x", api.SectorSize))
	kept, written := slices.Clone(d.Kept), slices.Clone(d.Written)
	for _, batch := range []int{1, 5, api.MaxBatch} {
		for _, s := range []string{twice, loop} {
			x, _, e := session.Record(d, s, in, 40, batch)
			y := api.Disk{Kept: slices.Clone(x.Kept), Written: slices.Clone(x.Written)}
			l, _ := session.Reopen(x)
			clear(x.Kept)
			clear(x.Written)
			clear(l)
			if !slices.Equal(d.Kept, kept) || !slices.Equal(d.Written, written) || !slices.Equal(in, []int{5, 6}) {
				t.Fatalf("%s in batches of %d: what came in was changed", s, batch)
			}
			z, _, f := session.Record(d, s, in, 40, batch)
			if e != f || !areSameDisks(y, z) {
				t.Fatalf("%s in batches of %d: %d, then %d", s, batch, e, f)
			}
		}
	}
	x, n, _ := session.Record(d, twice, in, 40, 5)
	clear(d.Kept)
	clear(d.Written)
	clear(in)
	expectReopened(t, x, traced(t, twice, []int{5, 6}, 40)[:n])
}
