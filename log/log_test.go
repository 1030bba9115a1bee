package log_test

import (
	"math"
	"math/rand"
	"slices"
	"strings"
	"testing"

	"hindsight/api"
	"hindsight/disk"
	"hindsight/log"
	"hindsight/sample"
)

// edges: an event of the least and the greatest numbers, each of them in each place.
func edges() []api.Event {
	return []api.Event{
		{Kind: api.Least, Frame: api.Most, At: api.Least, Var: api.Most, Index: api.Least, Value: api.Most},
		{Kind: api.Most, Frame: api.Least, At: api.Most, Var: api.Least, Index: api.Most, Value: api.Least},
		{Kind: -1, Frame: 255, At: 256, Var: -256, Index: -257, Value: 1 << 24},
	}
}

// some batches: with nothing in them, with one event and more, the same one twice, the greatest one.
func some() [][]api.Event {
	r := rand.New(rand.NewSource(1))
	return [][]api.Event{nil, {{Kind: 1}}, edges(), {}, edges(), sample.Events(r.Intn, api.MaxBatch), {{}}, nil}
}

func formatted(t *testing.T, sectors int) api.Disk {
	t.Helper()
	d, e := log.Format(sectors)
	if e != api.OK {
		t.Fatalf("Format(%d): %d", sectors, e)
	}
	return d
}

func appended(t *testing.T, d api.Disk, l []api.Event) (api.Disk, []api.Disk) {
	t.Helper()
	then, way, e := log.Append(d, l)
	if e != api.OK {
		t.Fatalf("Append of %d events: %d", len(l), e)
	}
	return then, way
}

func opened(t *testing.T, d api.Disk) [][]api.Event {
	t.Helper()
	l, e := log.Open(d)
	if e != api.OK {
		t.Fatalf("Open: %d", e)
	}
	return l
}

func areSame(a, b [][]api.Event) bool { return slices.EqualFunc(a, b, slices.Equal) }

func areSameDisks(a, b api.Disk) bool {
	return slices.Equal(a.Kept, b.Kept) && slices.Equal(a.Written, b.Written)
}

func expectBatches(t *testing.T, what string, d api.Disk, want [][]api.Event) {
	t.Helper()
	if l := opened(t, d); !areSame(l, want) {
		t.Fatalf("%s: %v, not %v", what, l, want)
	}
}

// expectWay: each disk is one Write or one Flush further than the one ahead, and the last one the answer.
func expectWay(t *testing.T, d, then api.Disk, way []api.Disk) {
	t.Helper()
	before, _ := disk.Crash(d, nil)
	for i, x := range way {
		if disk.Check(x) != api.OK || !isWrite(before, x) && !isFlush(before, x) {
			t.Fatalf("step %d of %d is no step", i, len(way))
		}
		before = x
	}
	if len(way) == 0 || !areSameDisks(before, then) || len(then.Written) > 0 || len(then.Kept) != len(d.Kept) {
		t.Fatalf("the way of %d steps does not lead to the answer", len(way))
	}
}

func isWrite(before, after api.Disk) bool {
	if len(after.Written) == 0 {
		return false
	}
	w := after.Written[len(after.Written)-1]
	x, e := disk.Write(before, w.Sector, w.Bytes)
	return e == api.OK && areSameDisks(x, after)
}

func isFlush(before, after api.Disk) bool {
	x, e := disk.Flush(before)
	return e == api.OK && areSameDisks(x, after)
}

func TestI1Format(t *testing.T) {
	for _, n := range []int{4, 5, 60, api.MaxSectors} {
		d := formatted(t, n)
		if disk.Check(d) != api.OK || len(d.Kept) != n || len(d.Written) > 0 {
			t.Errorf("Format(%d): %v", n, d)
		}
		expectBatches(t, "a new disk", d, nil)
	}
	for _, n := range []int{3, 1, 0, -1, math.MinInt, api.MaxSectors + 1, math.MaxInt} {
		if d, e := log.Format(n); e != api.ErrRange || len(d.Kept)+len(d.Written) > 0 {
			t.Errorf("Format(%d): %v %d", n, d, e)
		}
	}
}

func TestI1Append(t *testing.T) {
	d := formatted(t, 200)
	for i, l := range some() {
		then, way := appended(t, d, l)
		expectWay(t, d, then, way)
		expectBatches(t, "the batches so far", then, some()[:i+1])
		expectBatches(t, "those ahead", d, some()[:i])
		d = then
	}
}

// TestI1Written: what was written, and not kept, is lost, even if it would be a batch.
func TestI1Written(t *testing.T) {
	d := formatted(t, 40)
	d, _ = appended(t, d, edges())
	_, way := appended(t, d, edges()[:2])
	for _, x := range append(way, api.Disk{Kept: d.Kept, Written: []api.Written{{Sector: 0, Bytes: strings.Repeat("x", api.SectorSize)}}}) {
		lost, _ := disk.Crash(x, nil)
		now := opened(t, lost)
		expectBatches(t, "Open by what is kept", x, now)
		then, way := appended(t, x, edges()[2:])
		expectWay(t, x, then, way)
		expectBatches(t, "Append to what is kept", then, append(now, edges()[2:]))
		same, _ := appended(t, lost, edges()[2:])
		if !areSameDisks(then, same) {
			t.Error("what was not kept is seen")
		}
	}
}

// fill a disk with batches that are drawn, and tell of each one that has no room.
func fill(t *testing.T, sectors int, draw func() int) {
	d := formatted(t, sectors)
	var all [][]api.Event
	need, full := 4, 0
	for full < 10 {
		l := make([]api.Event, draw())
		then, way, e := log.Append(d, l)
		if e == api.OK {
			all = append(all, l)
			need += 2 + len(l)
			d = then
			continue
		}
		full++
		if e != api.ErrSpace || len(way)+len(then.Kept)+len(then.Written) > 0 {
			t.Fatalf("Append: %d disks, %v, %d", len(way), then, e)
		}
		if need+2+len(l) <= sectors {
			t.Fatalf("of %d sectors %d, and a batch of %d, have no room", sectors, need, len(l))
		}
	}
	expectBatches(t, "a full disk", d, all)
}

func TestI1Space(t *testing.T) {
	r := rand.New(rand.NewSource(2))
	for n := 4; n <= api.MaxSectors; n += 1 + r.Intn(20) {
		for _, most := range []int{1, 2, 10, api.MaxBatch + 1} {
			fill(t, n, func() int { return r.Intn(most) })
		}
	}
	fill(t, api.MaxSectors, func() int { return 0 })
	fill(t, api.MaxSectors, func() int { return 1 })
	fill(t, api.MaxSectors, func() int { return api.MaxBatch })
}

// TestI1SpaceEach: whatever is there, a batch for which there is just room is taken.
func TestI1SpaceEach(t *testing.T) {
	for n := 6; n <= 4+2+api.MaxBatch; n++ {
		d, _ := appended(t, formatted(t, n), make([]api.Event, n-6))
		expectBatches(t, "one batch", d, [][]api.Event{make([]api.Event, n-6)})
		d, _ = appended(t, formatted(t, n+5), edges())
		d, _ = appended(t, d, make([]api.Event, n-6))
		expectBatches(t, "two batches", d, [][]api.Event{edges(), make([]api.Event, n-6)})
	}
}

func TestI1Errors(t *testing.T) {
	d := formatted(t, 20)
	d, _ = appended(t, d, edges())
	blank := strings.Repeat("\x00", api.SectorSize)
	other := api.Disk{Kept: []string{blank}}
	many, wrong := make([]api.Event, api.MaxBatch+1), []api.Event{{}, {Value: api.Most + 1}}
	both := append(slices.Clone(many), wrong...)
	for _, row := range []struct {
		what      string
		d         api.Disk
		l         []api.Event
		why, open api.Errno
	}{
		{"no disk", api.Disk{}, both, api.ErrRange, api.ErrRange},
		{"too great a disk", api.Disk{Kept: make([]string, api.MaxSectors+1)}, both, api.ErrRange, api.ErrRange},
		{"a short sector", api.Disk{Kept: []string{"x"}}, both, api.ErrForm, api.ErrForm},
		{"too many written", api.Disk{Kept: d.Kept, Written: make([]api.Written, api.MaxSectors+1)}, both, api.ErrMany, api.ErrMany},
		{"written to none", api.Disk{Kept: d.Kept, Written: []api.Written{{Sector: 20, Bytes: blank}}}, both, api.ErrNone, api.ErrNone},
		{"short bytes written", api.Disk{Kept: d.Kept, Written: []api.Written{{Sector: 1}}}, wrong, api.ErrForm, api.ErrForm},
		{"too many events", d, many, api.ErrMany, api.OK},
		{"too many, and wrong ones", d, both, api.ErrMany, api.OK},
		{"too many, another disk", other, both, api.ErrMany, api.ErrState},
		{"wrong ones", d, wrong, api.ErrRange, api.OK},
		{"wrong ones, another disk", other, wrong, api.ErrRange, api.ErrState},
		{"wrong ones without room", d, append(make([]api.Event, 50), wrong...), api.ErrRange, api.OK},
		{"another disk without room", other, make([]api.Event, 50), api.ErrState, api.ErrState},
		{"without room", d, make([]api.Event, 50), api.ErrSpace, api.OK},
	} {
		if then, way, e := log.Append(row.d, row.l); e != row.why || len(way)+len(then.Kept)+len(then.Written) > 0 {
			t.Errorf("Append, %s: %d disks, %v, %d, not %d", row.what, len(way), then, e, row.why)
		}
		if l, e := log.Open(row.d); e != row.open || e != api.OK && len(l) > 0 {
			t.Errorf("Open, %s: %v %d, not %d", row.what, l, e, row.open)
		}
	}
}

func TestI1Range(t *testing.T) {
	d := formatted(t, 20)
	for _, n := range []int{api.Least - 1, api.Most + 1, math.MinInt, math.MaxInt} {
		for _, x := range []api.Event{{Kind: n}, {Frame: n}, {At: n}, {Var: n}, {Index: n}, {Value: n}} {
			for _, l := range [][]api.Event{{x}, {{}, {}, x}, {x, {}}} {
				if then, way, e := log.Append(d, l); e != api.ErrRange || len(way)+len(then.Kept) > 0 {
					t.Errorf("Append(%v): %d", l, e)
				}
			}
		}
	}
}

// TestI2Other: of a disk that is not ours some batches may be told, but then they can be had again, and more be laid behind them.
func TestI2Other(t *testing.T) {
	r := rand.New(rand.NewSource(3))
	found := [2]int{}
	for i := range 3000 {
		d := formatted(t, 10)
		d, _ = appended(t, d, edges())
		d, _ = appended(t, d, nil)
		for range 1 + r.Intn(3) {
			blur(r, d.Kept)
		}
		if i%10 == 0 {
			d.Kept = d.Kept[:1+r.Intn(10)]
		}
		l, e := log.Open(d)
		then, way, f := log.Append(d, edges()[:1])
		if e != api.OK {
			found[0]++
			if e != api.ErrState || len(l) > 0 || f != api.ErrState || len(way) > 0 {
				t.Fatalf("%q: Open %d, Append %d", d.Kept, e, f)
			}
			continue
		}
		found[1]++
		if f == api.OK {
			expectWay(t, d, then, way)
			expectBatches(t, "one more", then, append(l, edges()[:1]))
		} else if f != api.ErrSpace {
			t.Fatalf("%q: Append %d", d.Kept, f)
		}
	}
	if min(found[0], found[1]) < 300 {
		t.Errorf("%v", found)
	}
}

// TestI2State: a disk that lost a sector of what lies there is not taken for ours.
func TestI2State(t *testing.T) {
	d := formatted(t, 20)
	d, _ = appended(t, d, edges())
	d, _ = appended(t, d, edges())
	blank, _ := disk.New(20)
	for i, s := range d.Kept {
		if s == blank.Kept[i] {
			continue
		}
		other := api.Disk{Kept: slices.Clone(d.Kept)}
		other.Kept[i] = blank.Kept[i]
		l, e := log.Open(other)
		_, way, f := log.Append(other, nil)
		if e != api.ErrState || f != api.ErrState || len(l)+len(way) > 0 {
			t.Errorf("without sector %d: Open %d, Append %d", i, e, f)
		}
	}
}

// blur a byte of a sector, or put one sector in the place of another.
func blur(r *rand.Rand, sectors []string) {
	i := r.Intn(len(sectors))
	if r.Intn(3) == 0 {
		sectors[i] = sectors[r.Intn(len(sectors))]
		return
	}
	s := []byte(sectors[i])
	s[r.Intn(len(s))] = byte(r.Intn(256))
	sectors[i] = string(s)
}

// drawn: what a crash keeps, of so many.
func drawn(r *rand.Rand, n int) []bool {
	keep := make([]bool, r.Intn(n+2))
	share := 1 + r.Intn(4)
	for i := range keep {
		keep[i] = r.Intn(share) == 0
	}
	return keep
}

// TestI2Ours: a disk is ours whatever batches came to it, and whichever crashes: with what an earlier batch left on its way, too.
func TestI2Ours(t *testing.T) {
	r := rand.New(rand.NewSource(4))
	for range 100 {
		d := formatted(t, 10+r.Intn(60))
		var want [][]api.Event
		for range 25 {
			l := sample.Events(r.Intn, r.Intn(7))
			then, way, e := log.Append(d, l)
			if e == api.ErrSpace {
				break
			}
			expectWay(t, d, then, way)
			with := append(slices.Clone(want), l)
			d = way[r.Intn(len(way))]
			if r.Intn(4) > 0 {
				d, _ = disk.Crash(d, drawn(r, len(d.Written)))
			}
			now := opened(t, d)
			if !areSame(now, want) && !areSame(now, with) {
				t.Fatalf("%v, not %v, with %v or without", now, want, l)
			}
			want = now
		}
	}
}

// expectCrash: behind a crash there is what was there, with a batch or without it; and it may come once more.
func expectCrash(t *testing.T, x api.Disk, keep []bool, want [][]api.Event, l []api.Event) bool {
	t.Helper()
	d, _ := disk.Crash(x, keep)
	now := opened(t, d)
	isThere := areSame(now, append(slices.Clone(want), l))
	if !isThere && !areSame(now, want) {
		t.Fatalf("kept %v of %d: %v, not %v, with %v or without", keep, len(x.Written), now, want, l)
	}
	again, _ := appended(t, d, l)
	expectBatches(t, "once more", again, append(now, l))
	return isThere
}

// TestI3: a crash at each step, and each way of keeping what was written.
func TestI3(t *testing.T) {
	for n := range 7 {
		d := formatted(t, 60)
		// what another batch left that was on its way lies where this one comes to
		_, way := appended(t, d, append(edges(), edges()...))
		d, _ = disk.Flush(way[len(way)-3])
		d, _ = appended(t, d, edges())
		want := [][]api.Event{edges()}
		l := slices.Repeat([]api.Event{{Kind: 7, Value: -1}}, n)
		then, way := appended(t, d, l)
		for _, x := range way {
			for set := range 1 << len(x.Written) {
				keep := make([]bool, len(x.Written))
				for i := range keep {
					keep[i] = set>>i&1 == 1
				}
				expectCrash(t, x, keep, want, l)
			}
		}
		if !expectCrash(t, way[len(way)-1], nil, want, l) || !expectCrash(t, then, nil, want, l) {
			t.Errorf("a batch of %d is not there", n)
		}
		if expectCrash(t, way[0], nil, want, l) {
			t.Errorf("a batch of %d is there ahead of its time", n)
		}
	}
}

// TestI3Great: the greatest batch, of which one sector alone is kept or lost, or some are.
func TestI3Great(t *testing.T) {
	r := rand.New(rand.NewSource(5))
	d := formatted(t, api.MaxSectors)
	d, _ = appended(t, d, edges())
	l := sample.Events(r.Intn, api.MaxBatch)
	_, way := appended(t, d, l)
	for _, x := range way {
		for range 10 {
			expectCrash(t, x, drawn(r, len(x.Written)), [][]api.Event{edges()}, l)
		}
		for _, isKept := range []bool{true, false} {
			keep := slices.Repeat([]bool{isKept}, len(x.Written))
			expectCrash(t, x, keep, [][]api.Event{edges()}, l)
			if len(keep) > 0 {
				keep[r.Intn(len(keep))] = !isKept
				expectCrash(t, x, keep, [][]api.Event{edges()}, l)
			}
		}
	}
	expectBatches(t, "the end of the way", way[len(way)-1], [][]api.Event{edges(), l})
}
