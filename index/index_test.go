package index_test

import (
	"math"
	"math/rand"
	"slices"
	"testing"

	"hindsight/api"
	"hindsight/index"
	"hindsight/sample"
	"hindsight/trace"
)

func expectFind(t *testing.T, l []api.Event, kind, n, from, to int, want ...int) {
	t.Helper()
	if m, e := index.Find(l, kind, n, from, to); !slices.Equal(m, want) || e != api.OK {
		t.Errorf("Find(%v, %d, %d, %d, %d): %v %d, not %v", l, kind, n, from, to, m, e, want)
	}
}

// expectLast time; -1: there is none.
func expectLast(t *testing.T, l []api.Event, kind, n, before, want int) {
	t.Helper()
	time, ok, e := index.Last(l, kind, n, before)
	if time != max(want, 0) || ok != (want >= 0) || e != api.OK {
		t.Errorf("Last(%v, %d, %d, %d): %d %v %d, not %d", l, kind, n, before, time, ok, e, want)
	}
}

func expectCount(t *testing.T, l []api.Event, kind, n, want int) {
	t.Helper()
	if count, e := index.Count(l, kind, n); count != want || e != api.OK {
		t.Errorf("Count(%v, %d, %d): %d %d, not %d", l, kind, n, count, e, want)
	}
}

// expectAll: what fits, wherever it is.
func expectAll(t *testing.T, l []api.Event, kind, n int, want ...int) {
	t.Helper()
	expectFind(t, l, kind, n, 0, len(l), want...)
	expectCount(t, l, kind, n, len(want))
	last := -1
	if len(want) > 0 {
		last = want[len(want)-1]
	}
	expectLast(t, l, kind, n, len(l), last)
}

// TestK1About: each kind of events is looked up by a number of its own.
func TestK1About(t *testing.T) {
	for kind := api.EventStep; kind <= api.EventEnd; kind++ {
		x := api.Event{Kind: kind, Frame: 11, At: 12, Var: 13, Index: 14, Value: 15}
		about := 15
		switch kind {
		case api.EventStep:
			about = 12
		case api.EventWrite, api.EventCall:
			about = 13
		}
		for n := -3; n <= 20; n++ {
			if n == about || n == -1 {
				expectAll(t, []api.Event{x}, kind, n, 0)
			} else {
				expectAll(t, []api.Event{x}, kind, n)
			}
		}
		for other := api.EventStep; other <= api.EventEnd; other++ {
			if other != kind {
				expectAll(t, []api.Event{x}, other, -1)
				expectAll(t, []api.Event{x}, other, about)
			}
		}
	}
}

// TestK1Whatever: -1 is whatever there is, even where something is about -1, and others below 0 are numbers like any.
func TestK1Whatever(t *testing.T) {
	l := []api.Event{}
	for _, n := range []int{0, -1, -2, 5, -1, math.MinInt, math.MaxInt, 0} {
		l = append(l, api.Event{Kind: api.EventPrint, Value: n}, api.Event{Kind: api.EventStep, At: n}, api.Event{Kind: api.EventWrite, Var: n})
	}
	for i, kind := range []int{api.EventPrint, api.EventStep, api.EventWrite} {
		expectAll(t, l, kind, -1, i, i+3, i+6, i+9, i+12, i+15, i+18, i+21)
		expectAll(t, l, kind, 0, i, i+21)
		expectAll(t, l, kind, -2, i+6)
		expectAll(t, l, kind, 5, i+9)
		expectAll(t, l, kind, math.MinInt, i+15)
		expectAll(t, l, kind, math.MaxInt, i+18)
		expectAll(t, l, kind, 1)
	}
	// where all that is there is about -1
	expectAll(t, l[3:4], api.EventPrint, -1, 0)
	expectAll(t, l[3:4], api.EventPrint, 0)
}

// TestK1Times: times that are none fit nothing.
func TestK1Times(t *testing.T) {
	a, b := api.Event{Kind: api.EventRead, Value: 7}, api.Event{Kind: api.EventPrint, Value: 7}
	l := []api.Event{b, a, a, b, a}
	for _, row := range []struct {
		from, to int
		want     []int
	}{
		{0, 5, []int{1, 2, 4}}, {1, 5, []int{1, 2, 4}}, {2, 5, []int{2, 4}}, {3, 5, []int{4}}, {4, 5, []int{4}}, {5, 5, nil},
		{0, 4, []int{1, 2}}, {0, 3, []int{1, 2}}, {0, 2, []int{1}}, {0, 1, nil}, {0, 0, nil},
		{2, 3, []int{2}}, {2, 2, nil}, {4, 1, nil}, {5, 0, nil}, {9, 2, nil}, {0, -1, nil}, {2, -9, nil},
		{-5, 99, []int{1, 2, 4}}, {-5, 2, []int{1}}, {3, 99, []int{4}}, {6, 99, nil}, {-9, -2, nil}, {-2, -9, nil},
		{math.MinInt, math.MaxInt, []int{1, 2, 4}}, {math.MaxInt, math.MinInt, nil}, {math.MinInt, math.MinInt, nil}, {math.MaxInt, math.MaxInt, nil},
	} {
		expectFind(t, l, api.EventRead, -1, row.from, row.to, row.want...)
		expectFind(t, l, api.EventRead, 7, row.from, row.to, row.want...)
		expectFind(t, l, api.EventRead, 8, row.from, row.to)
	}
	for before, want := range []int{-1, -1, 1, 2, 2, 4, 4, 4} {
		expectLast(t, l, api.EventRead, -1, before, want)
		expectLast(t, l, api.EventRead, 7, before, want)
		expectLast(t, l, api.EventRead, 8, before, -1)
	}
	expectLast(t, l, api.EventRead, -1, math.MaxInt, 4)
	expectLast(t, l, api.EventRead, -1, math.MinInt, -1)
	expectLast(t, l, api.EventRead, -1, -1, -1)
	// 0 is a time, too
	expectLast(t, l, api.EventPrint, 7, 1, 0)
	expectLast(t, l, api.EventPrint, 7, 0, -1)
	for _, l := range [][]api.Event{nil, {}} {
		expectAll(t, l, api.EventStep, -1)
		expectFind(t, l, api.EventStep, 0, math.MinInt, math.MaxInt)
		expectLast(t, l, api.EventStep, 0, math.MaxInt, -1)
	}
}

// fits: as the document says it.
func fits(x api.Event, kind, n int) bool {
	about := x.Value
	if kind == api.EventStep {
		about = x.At
	}
	if kind == api.EventWrite || kind == api.EventCall {
		about = x.Var
	}
	return x.Kind == kind && (n == -1 || n == about)
}

// expectAsSaid: what fits is found by going through all events.
func expectAsSaid(t *testing.T, l []api.Event, kind, n, from, to int) {
	t.Helper()
	var found []int
	last, count := -1, 0
	for time, x := range l {
		if !fits(x, kind, n) {
			continue
		}
		count++
		if from <= time && time < to {
			found = append(found, time)
		}
		if time < to {
			last = time
		}
	}
	expectFind(t, l, kind, n, from, to, found...)
	expectLast(t, l, kind, n, to, last)
	expectCount(t, l, kind, n, count)
}

// TestK1Any: of events of any form, such as no program makes, some of no kind.
func TestK1Any(t *testing.T) {
	r := rand.New(rand.NewSource(1))
	for range 3000 {
		l := make([]api.Event, r.Intn(30))
		for i := range l {
			l[i] = api.Event{Kind: r.Intn(10) - 1, Frame: r.Intn(4), At: r.Intn(5) - 2, Var: r.Intn(5) - 2, Index: r.Intn(4), Value: r.Intn(5) - 2}
		}
		expectAsSaid(t, l, 1+r.Intn(api.EventEnd), r.Intn(6)-2, r.Intn(40)-5, r.Intn(40)-5)
	}
}

func TestK1Traces(t *testing.T) {
	r := rand.New(rand.NewSource(2))
	for range 300 {
		l, _ := trace.Run(sample.Program(r.Intn), []int{3, 0, -1}, r.Intn(60))
		for kind := api.EventStep; kind <= api.EventEnd; kind++ {
			for n := -1; n < 5; n++ {
				expectAsSaid(t, l, kind, n, r.Intn(len(l)+1), r.Intn(len(l)+1))
			}
		}
	}
}

// expectWhy: all calls tell the same error, and nothing else.
func expectWhy(t *testing.T, l []api.Event, kind int, why api.Errno) {
	t.Helper()
	for _, n := range []int{-1, 0, 7} {
		if m, e := index.Find(l, kind, n, 0, len(l)); len(m) > 0 || e != why {
			t.Errorf("Find of %d events, %d, %d: %v %d, not %d", len(l), kind, n, m, e, why)
		}
		if time, ok, e := index.Last(l, kind, n, len(l)); time != 0 || ok || e != why {
			t.Errorf("Last of %d events, %d, %d: %d %v %d, not %d", len(l), kind, n, time, ok, e, why)
		}
		if count, e := index.Count(l, kind, n); count != 0 || e != why {
			t.Errorf("Count of %d events, %d, %d: %d %d, not %d", len(l), kind, n, count, e, why)
		}
	}
}

func TestK2Errors(t *testing.T) {
	most := make([]api.Event, api.MaxTrace)
	more := make([]api.Event, api.MaxTrace+1)
	for _, kind := range []int{0, api.EventEnd + 1, -1, math.MinInt, math.MaxInt} {
		// events of this kind there are, but the kind is none
		x := api.Event{Kind: kind}
		expectWhy(t, nil, kind, api.ErrKind)
		expectWhy(t, []api.Event{x, x}, kind, api.ErrKind)
		expectWhy(t, slices.Repeat([]api.Event{x}, api.MaxTrace), kind, api.ErrKind)
		// too many are told first
		expectWhy(t, slices.Repeat([]api.Event{x}, api.MaxTrace+1), kind, api.ErrMany)
	}
	for kind := api.EventStep; kind <= api.EventEnd; kind++ {
		expectWhy(t, most, kind, api.OK)
		expectWhy(t, more, kind, api.ErrMany)
		all := slices.Repeat([]api.Event{{Kind: kind}}, api.MaxTrace)
		expectCount(t, all, kind, 0, api.MaxTrace)
		expectFind(t, all, kind, 0, api.MaxTrace-2, math.MaxInt, api.MaxTrace-2, api.MaxTrace-1)
		expectLast(t, all, kind, -1, math.MaxInt, api.MaxTrace-1)
		expectWhy(t, append(all, api.Event{Kind: kind}), kind, api.ErrMany)
	}
}

// TestP2LookingUp: times that came out may be changed, and added to, without changing the events, or what is found next.
func TestP2LookingUp(t *testing.T) {
	x := api.Event{Kind: api.EventPrint, Value: 3}
	l := slices.Repeat([]api.Event{x}, 5)
	for _, n := range []int{-1, 3} {
		for range 3 {
			m, _ := index.Find(l, api.EventPrint, n, 1, 3)
			m[0], m[1] = 77, 78
			m = append(m, 79)
			all, _ := index.Find(l, api.EventPrint, n, 0, 5)
			clear(all)
			expectFind(t, l, api.EventPrint, n, 1, 3, 1, 2)
			expectAll(t, l, api.EventPrint, n, 0, 1, 2, 3, 4)
			if !slices.Equal(m, []int{77, 78, 79}) || !slices.Equal(l, slices.Repeat([]api.Event{x}, 5)) {
				t.Fatalf("%v %v", m, l)
			}
		}
	}
	m, _ := index.Find(l, api.EventPrint, 3, 0, 5)
	clear(l)
	if !slices.Equal(m, []int{0, 1, 2, 3, 4}) {
		t.Errorf("%v", m)
	}
}
