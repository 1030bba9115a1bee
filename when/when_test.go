package when_test

import (
	"math"
	"math/rand"
	"slices"
	"testing"

	"hindsight/api"
	"hindsight/query"
	"hindsight/sample"
	"hindsight/scope"
	"hindsight/trace"
	"hindsight/when"
)

// one: the value is 1.
func one() api.Ask { return api.Ask{Kind: api.AskSame, N: 1} }

// events at which one holds, where a text has x.
func events(marks string) []api.Event {
	l := []api.Event{}
	for _, m := range marks {
		x := api.Event{Kind: api.EventRead}
		if m == 'x' {
			x.Value = 1
		}
		l = append(l, x)
	}
	return l
}

func expectTimes(t *testing.T, q api.Ask, l []api.Event, from, to int, want ...int) {
	t.Helper()
	if m, e := when.Times(q, l, from, to); !slices.Equal(m, want) || e != api.OK {
		t.Errorf("Times(%v, %v, %d, %d): %v %d, not %v", q, l, from, to, m, e, want)
	}
}

// expectFirst time; -1: there is none.
func expectFirst(t *testing.T, q api.Ask, l []api.Event, want int) {
	t.Helper()
	if time, ok, e := when.First(q, l); time != max(want, 0) || ok != (want >= 0) || e != api.OK {
		t.Errorf("First(%v, %v): %d %v %d, not %d", q, l, time, ok, e, want)
	}
}

func expectSpans(t *testing.T, q api.Ask, l []api.Event, want ...[2]int) {
	t.Helper()
	if m, e := when.Spans(q, l); !slices.Equal(m, want) || e != api.OK {
		t.Errorf("Spans(%v, %v): %v %d, not %v", q, l, m, e, want)
	}
}

func TestN1Spans(t *testing.T) {
	for marks, want := range map[string][][2]int{
		"": nil, ".": nil, "...": nil,
		"x": {{0, 1}}, "xxx": {{0, 3}},
		"x..": {{0, 1}}, ".x.": {{1, 2}}, "..x": {{2, 3}}, ".xx": {{1, 3}}, "xx.": {{0, 2}},
		"x.x":         {{0, 1}, {2, 3}},
		"xx..x.xxx.x": {{0, 2}, {4, 5}, {6, 9}, {10, 11}},
		".xx.xx.":     {{1, 3}, {4, 6}},
	} {
		expectSpans(t, one(), events(marks), want...)
		first := -1
		if len(want) > 0 {
			first = want[0][0]
		}
		expectFirst(t, one(), events(marks), first)
	}
	expectSpans(t, one(), nil)
	expectFirst(t, one(), nil, -1)
	expectTimes(t, one(), nil, 0, 9)
}

// TestN1Times: from and to may be no times, and need not rise.
func TestN1Times(t *testing.T) {
	l := events("x.xx..x")
	for _, row := range []struct {
		from, to int
		want     []int
	}{
		{0, 7, []int{0, 2, 3, 6}}, {1, 7, []int{2, 3, 6}}, {2, 7, []int{2, 3, 6}}, {3, 7, []int{3, 6}}, {4, 7, []int{6}}, {6, 7, []int{6}}, {7, 7, nil},
		{0, 6, []int{0, 2, 3}}, {0, 4, []int{0, 2, 3}}, {0, 3, []int{0, 2}}, {0, 2, []int{0}}, {0, 1, []int{0}}, {0, 0, nil},
		{3, 4, []int{3}}, {3, 3, nil}, {4, 6, nil}, {3, 2, nil}, {6, 0, nil}, {7, 0, nil},
		{-1, 1, []int{0}}, {-5, 99, []int{0, 2, 3, 6}}, {6, 99, []int{6}}, {7, 99, nil}, {50, 99, nil}, {-9, -2, nil}, {-9, 0, nil}, {99, -9, nil}, {2, -9, nil}, {99, 7, nil},
		{math.MinInt, math.MaxInt, []int{0, 2, 3, 6}}, {math.MaxInt, math.MinInt, nil}, {math.MinInt, math.MinInt, nil}, {math.MaxInt, math.MaxInt, nil}, {math.MinInt, 3, []int{0, 2}}, {3, math.MaxInt, []int{3, 6}},
	} {
		expectTimes(t, one(), l, row.from, row.to, row.want...)
	}
}

func TestN1Example(t *testing.T) {
	p, _, _ := scope.Program("func twice(n) { return (n + n); } main { var x; arr a 2; x = read; a[1] = (x * 3); x = twice(a[1]); print x; }")
	l, _ := trace.Run(p, []int{5}, 40)
	q, _, _ := query.Parse("(not print since call any)")
	expectTimes(t, q, l, 0, len(l), 6, 7, 8, 9, 10)
	expectTimes(t, q, l, 8, 10, 8, 9)
	expectFirst(t, q, l, 6)
	expectSpans(t, q, l, [2]int{6, 11})
	q, _, _ = query.Parse("not write any")
	expectSpans(t, q, l, [2]int{0, 2}, [2]int{3, 4}, [2]int{5, 7}, [2]int{8, 9}, [2]int{10, 13})
	expectFirst(t, q, l, 0)
}

// TestN1Samples: each call tells of what Holds, and of the times alone that it is asked for.
func TestN1Samples(t *testing.T) {
	r := rand.New(rand.NewSource(1))
	for range 1000 {
		q, l := sample.Ask(r.Intn), events("xx..x.xxx.x.....xx"[r.Intn(9):])
		for i := range l {
			l[i].Kind = 1 + r.Intn(5)
		}
		holds, _ := query.Holds(q, l)
		expectFirst(t, q, l, slices.Index(holds, true))
		for range 20 {
			from, to := r.Intn(len(l)+8)-4, r.Intn(len(l)+8)-4
			var want []int
			for time := from; time < to; time++ {
				if time >= 0 && time < len(l) && holds[time] {
					want = append(want, time)
				}
			}
			expectTimes(t, q, l, from, to, want...)
		}
	}
}

// TestN1Errors: those of Holds, in their order, whatever from and to are.
func TestN1Errors(t *testing.T) {
	many := make([]api.Event, api.MaxTrace+1)
	long := one()
	for range api.MaxAsk {
		long = api.Ask{Kind: api.AskNot, Args: []api.Ask{long}}
	}
	for _, row := range []struct {
		q    api.Ask
		l    []api.Event
		want api.Errno
	}{
		{one(), many, api.ErrMany}, {long, nil, api.ErrMany}, {api.Ask{}, events("x"), api.ErrKind}, {api.Ask{}, many, api.ErrKind},
		{api.Ask{Kind: api.AskAnd}, nil, api.ErrForm}, {api.Ask{Kind: api.AskAnd}, many, api.ErrForm},
		{api.Ask{Kind: api.AskStep, N: -2}, nil, api.ErrRange}, {api.Ask{Kind: api.AskStep, N: -2}, many, api.ErrRange},
	} {
		for _, ends := range [][2]int{{0, 1}, {5, 2}, {-3, math.MaxInt}} {
			if m, e := when.Times(row.q, row.l, ends[0], ends[1]); e != row.want || len(m) > 0 {
				t.Errorf("Times(%v): %v %d, not %d", row.q, m, e, row.want)
			}
		}
		if time, ok, e := when.First(row.q, row.l); e != row.want || time != 0 || ok {
			t.Errorf("First(%v): %d %v %d, not %d", row.q, time, ok, e, row.want)
		}
		if m, e := when.Spans(row.q, row.l); e != row.want || len(m) > 0 {
			t.Errorf("Spans(%v): %v %d, not %d", row.q, m, e, row.want)
		}
	}
	all := many[1:]
	expectSpans(t, api.Ask{Kind: api.AskSame}, all, [2]int{0, api.MaxTrace})
	expectFirst(t, one(), all, -1)
	expectTimes(t, api.Ask{Kind: api.AskSame}, all, api.MaxTrace-2, math.MaxInt, api.MaxTrace-2, api.MaxTrace-1)
}

// expectJustTimes: spans rise, don't touch each other, and have just the times.
func expectJustTimes(t *testing.T, q api.Ask, l []api.Event) {
	t.Helper()
	spans, _ := when.Spans(q, l)
	var inSpans []int
	end := -1
	for _, s := range spans {
		if s[0] <= end || s[1] <= s[0] {
			t.Fatalf("Spans(%v, %v): %v", q, l, spans)
		}
		end = s[1]
		for time := s[0]; time < s[1]; time++ {
			inSpans = append(inSpans, time)
		}
	}
	expectTimes(t, q, l, 0, len(l), inSpans...)
	if len(inSpans) > 0 {
		expectFirst(t, q, l, inSpans[0])
	} else {
		expectFirst(t, q, l, -1)
	}
}

func TestN2SpansHaveJustTheTimes(t *testing.T) {
	for count := range 11 {
		for which := range 1 << count {
			l := make([]api.Event, count)
			for i := range l {
				l[i].Value = which >> i & 1
			}
			expectJustTimes(t, one(), l)
		}
	}
	r := rand.New(rand.NewSource(2))
	for range 500 {
		l, _ := trace.Run(sample.Program(r.Intn), []int{3, 0, -1, 2}, 40)
		expectJustTimes(t, sample.Ask(r.Intn), l)
	}
}
