package query_test

import (
	"math"
	"math/rand"
	"slices"
	"testing"

	"hindsight/api"
	"hindsight/query"
	"hindsight/sample"
	"hindsight/scope"
	"hindsight/trace"
)

// holding: what Holds tells, x where it holds, . elsewhere.
func holding(t *testing.T, q api.Ask, l []api.Event) string {
	t.Helper()
	marks, e := query.Holds(q, l)
	if e != api.OK || len(marks) != len(l) {
		t.Fatalf("Holds(%v, %v): %v %d", q, l, marks, e)
	}
	s := ""
	for _, is := range marks {
		s += map[bool]string{true: "x", false: "."}[is]
	}
	return s
}

func expectHolds(t *testing.T, text string, l []api.Event, want string) {
	t.Helper()
	q, at, e := query.Parse(text)
	if e != api.OK {
		t.Fatalf("Parse(%q): %d %d", text, at, e)
	}
	if s := holding(t, q, l); s != want {
		t.Errorf("%q holds %s, not %s", text, s, want)
	}
}

// events whose values are the digits of a text, of a kind of which nothing is asked.
func events(digits string) []api.Event {
	l := []api.Event{}
	for _, d := range digits {
		l = append(l, api.Event{Kind: api.EventBack, Value: int(d - '0')})
	}
	return l
}

// TestM3Kinds: which events are steps, writes, calls and prints, and of what, and that nothing else is.
func TestM3Kinds(t *testing.T) {
	l := []api.Event{}
	for kind := range 9 {
		l = append(l,
			api.Event{Kind: kind, Frame: 1, At: 2, Var: 3, Index: 4, Value: 5},
			api.Event{Kind: kind, Frame: 5, At: 1, Var: 2, Index: 3, Value: 4},
			api.Event{Kind: kind, Frame: 4, At: 5, Var: 1, Index: 2, Value: 3})
	}
	for text, want := range map[string]string{
		"step any":  "...xxx.....................",
		"write any": "......xxx..................",
		"call any":  "...............xxx.........",
		"print":     "............xxx............",
		"step 2":    "...x.......................",
		"step 1":    "....x......................",
		"step 5":    ".....x.....................",
		"step 3":    "...........................",
		"step 4":    "...........................",
		"step 0":    "...........................",
		"write 3":   "......x....................",
		"write 2":   ".......x...................",
		"write 1":   "........x..................",
		"write 4":   "...........................",
		"write 5":   "...........................",
		"call 3":    "...............x...........",
		"call 2":    "................x..........",
		"call 1":    ".................x.........",
		"call 4":    "...........................",
		"call 5":    "...........................",
		"same 5":    "x..x..x..x..x..x..x..x..x..",
		"same 4":    ".x..x..x..x..x..x..x..x..x.",
		"same 2":    "...........................",
		"less 5":    ".xx.xx.xx.xx.xx.xx.xx.xx.xx",
		"less 4":    "..x..x..x..x..x..x..x..x..x",
		"less 3":    "...........................",
		"less 6":    "xxxxxxxxxxxxxxxxxxxxxxxxxxx",
	} {
		expectHolds(t, text, l, want)
	}
}

// TestM3Numbers: numbers below 0, and those that no run has.
func TestM3Numbers(t *testing.T) {
	l := []api.Event{}
	for _, n := range []int{math.MinInt, -9999999, -2, -1, 0, 1, 9999999, math.MaxInt} {
		l = append(l, api.Event{Kind: api.EventStep, At: n, Value: n})
	}
	for text, want := range map[string]string{
		"step any": "xxxxxxxx", "step 0": "....x...", "step 9999999": "......x.",
		"less 0": "xxxx....", "less -1": "xxx.....", "less -2": "xx......", "less -9999999": "x.......", "less 9999999": "xxxxxx..", "less 1": "xxxxx...",
		"same 0": "....x...", "same -1": "...x....", "same -2": "..x.....", "same -9999999": ".x......", "same 9999999": "......x.",
	} {
		expectHolds(t, text, l, want)
	}
}

// TestM3Words: a word at the first event, at the last one, and between.
func TestM3Words(t *testing.T) {
	l := events("0110100211")
	for text, want := range map[string]string{
		"same 1":           ".xx.x...xx",
		"not same 1":       "x..x.xxx..",
		"prev same 1":      "..xx.x...x",
		"prev same 0":      ".x..x.xx..",
		"prev not same 0":  "..xx.x..xx",
		"not prev same 0":  "x.xx.x..xx",
		"once same 1":      ".xxxxxxxxx",
		"once same 0":      "xxxxxxxxxx",
		"once same 2":      ".......xxx",
		"once same 3":      "..........",
		"all same 0":       "x.........",
		"all same 1":       "..........",
		"all less 2":       "xxxxxxx...",
		"all less 3":       "xxxxxxxxxx",
		"soon 0 same 2":    ".......x..",
		"soon 1 same 2":    "......xx..",
		"soon 3 same 2":    "....xxxx..",
		"soon 6 same 2":    ".xxxxxxx..",
		"soon 7 same 2":    "xxxxxxxx..",
		"soon 4000 same 2": "xxxxxxxx..",
		"soon 0 same 1":    ".xx.x...xx",
		"soon 1 same 1":    "xxxxx..xxx",
		"soon 2 same 1":    "xxxxx.xxxx",
		"soon 3 same 1":    "xxxxxxxxxx",
		"soon 4000 same 3": "..........",
		"soon 9 same 0":    "xxxxxxx...",

		"(same 1 and prev same 1)":             "..x......x",
		"(same 1 or same 2)":                   ".xx.x..xxx",
		"(same 1 since same 0)":                "xxxxxxx...",
		"(same 0 since same 1)":                ".xxxxxx.xx",
		"(same 1 since same 2)":                ".......xxx",
		"(same 0 since same 2)":                ".......x..",
		"(same 2 since same 3)":                "..........",
		"(less 3 since same 1)":                ".xxxxxxxxx",
		"(same 3 since same 1)":                ".xx.x...xx",
		"prev prev same 1":                     "...xx.x...",
		"prev once same 2":                     "........xx",
		"once prev same 2":                     "........xx",
		"not once not less 2":                  "xxxxxxx...",
		"all once same 0":                      "xxxxxxxxxx",
		"soon 1 prev same 2":                   ".......xx.",
		"prev soon 1 same 2":                   ".......xx.",
		"soon 2 soon 1 same 2":                 "....xxxx..",
		"((same 1 or same 0) and once same 2)": "........xx",
	} {
		expectHolds(t, text, l, want)
	}
}

// TestM3Few: of no event, and of one, which is the first one and the last one.
func TestM3Few(t *testing.T) {
	one := events("1")
	for text, want := range map[string]string{
		"same 1": "x", "same 0": ".", "not same 1": ".", "not same 0": "x",
		"prev same 1": ".", "prev not same 1": ".", "not prev same 1": "x", "prev prev same 1": ".", "prev not prev same 1": ".",
		"once same 1": "x", "once same 0": ".", "all same 1": "x", "all same 0": ".",
		"soon 0 same 1": "x", "soon 4000 same 1": "x", "soon 4000 same 0": ".",
		"(same 0 since same 1)": "x", "(same 1 since same 0)": ".", "(same 1 since same 1)": "x",
	} {
		expectHolds(t, text, one, want)
		expectHolds(t, text, nil, "")
		expectHolds(t, text, []api.Event{}, "")
	}
}

// asSaid: at which events a query holds, each by the words of the document, whatever holds at another one.
func asSaid(q api.Ask, l []api.Event) []bool {
	var args [][]bool
	for _, a := range q.Args {
		args = append(args, asSaid(a, l))
	}
	some := func(from, to int, holds func(time int) bool) bool {
		for time := max(from, 0); time <= min(to, len(l)-1); time++ {
			if holds(time) {
				return true
			}
		}
		return false
	}
	first := func(time int) bool { return args[0][time] }
	notFirst := func(time int) bool { return !args[0][time] }
	var marks []bool
	for time, x := range l {
		is := false
		switch q.Kind {
		case api.AskStep:
			is = x.Kind == api.EventStep && (q.N == -1 || x.At == q.N)
		case api.AskWrite:
			is = x.Kind == api.EventWrite && (q.N == -1 || x.Var == q.N)
		case api.AskCall:
			is = x.Kind == api.EventCall && (q.N == -1 || x.Var == q.N)
		case api.AskPrint:
			is = x.Kind == api.EventPrint
		case api.AskLess:
			is = x.Value < q.N
		case api.AskSame:
			is = x.Value == q.N
		case api.AskNot:
			is = !args[0][time]
		case api.AskAnd:
			is = args[0][time] && args[1][time]
		case api.AskOr:
			is = args[0][time] || args[1][time]
		case api.AskPrev:
			is = some(time-1, time-1, first)
		case api.AskOnce:
			is = some(0, time, first)
		case api.AskAll:
			is = !some(0, time, notFirst)
		case api.AskSince:
			is = some(0, time, func(then int) bool { return args[1][then] && !some(then+1, time, notFirst) })
		case api.AskSoon:
			is = some(time, time+q.N, first)
		}
		marks = append(marks, is)
	}
	return marks
}

func expectAsSaid(t *testing.T, q api.Ask, l []api.Event) {
	t.Helper()
	if marks, e := query.Holds(q, l); !slices.Equal(marks, asSaid(q, l)) || e != api.OK {
		t.Fatalf("Holds(%v, %v): %v %d, not %v", q, l, marks, e, asSaid(q, l))
	}
}

// TestM3AllLists: each word, of each list of up to six events that are this or that.
func TestM3AllLists(t *testing.T) {
	a, b := of(api.AskSame, 1), of(api.AskStep, 0)
	asks := []api.Ask{of(api.AskNot, 0, a), of(api.AskPrev, 0, a), of(api.AskOnce, 0, a), of(api.AskAll, 0, a), of(api.AskAnd, 0, a, b), of(api.AskOr, 0, a, b), of(api.AskSince, 0, a, b)}
	for n := range 8 {
		asks = append(asks, of(api.AskSoon, n, a))
	}
	for count := range 7 {
		for which := range 1 << (2 * count) {
			l := []api.Event{}
			for i := range count {
				l = append(l, api.Event{Kind: api.EventStep + which>>(2*i)&1, Value: which >> (2*i + 1) & 1})
			}
			for _, q := range asks {
				expectAsSaid(t, q, l)
			}
		}
	}
}

// few events, whose numbers are small, so that much is asked that is there.
func few(r *rand.Rand, count int) []api.Event {
	l := []api.Event{}
	for range count {
		l = append(l, api.Event{Kind: r.Intn(api.EventEnd + 1), Frame: r.Intn(3), At: r.Intn(3), Var: r.Intn(3), Index: r.Intn(3), Value: r.Intn(6) - 2})
	}
	return l
}

func TestM3Samples(t *testing.T) {
	r := rand.New(rand.NewSource(4))
	for range 6000 {
		expectAsSaid(t, sample.Ask(r.Intn), few(r, r.Intn(25)))
	}
	for range 300 {
		l, _ := trace.Run(sample.Program(r.Intn), []int{3, 0, -1, 2}, 40)
		expectAsSaid(t, sample.Ask(r.Intn), l)
	}
}

func TestM3Example(t *testing.T) {
	p, _, _ := scope.Program("func twice(n) { return (n + n); } main { var x; arr a 2; x = read; a[1] = (x * 3); x = twice(a[1]); print x; }")
	l, _ := trace.Run(p, []int{5}, 40)
	for text, want := range map[string]string{
		"step any":                    "x..x.x....x..",
		"write 0":                     "..x....x.x...",
		"call 0":                      "......x......",
		"print":                       "...........x.",
		"same 30":                     "........xx.x.",
		"(not print since call any)":  "......xxxxx..",
		"(once call 0 and write any)": ".......x.x...",
	} {
		expectHolds(t, text, l, want)
	}
}

// TestM3Many: as many events as are looked at, and one more; what Check says is told first.
func TestM3Many(t *testing.T) {
	l := make([]api.Event, api.MaxTrace)
	last := len(l) - 1
	l[last].Value = 1
	one := of(api.AskSame, 1)
	for _, row := range []struct {
		q    api.Ask
		from int
	}{{one, last}, {of(api.AskSoon, 1, one), last - 1}, {of(api.AskSoon, last-1, one), 1}, {of(api.AskSoon, last, one), 0}, {of(api.AskSoon, api.MaxTrace, one), 0}, {of(api.AskOnce, 0, one), last}} {
		marks, e := query.Holds(row.q, l)
		if e != api.OK || len(marks) != len(l) || slices.Index(marks, true) != row.from || slices.Contains(marks[row.from:], false) {
			t.Errorf("Holds(%v): %d, from %d on", row.q, e, slices.Index(marks, true))
		}
	}
	more := make([]api.Event, api.MaxTrace+1)
	for q, want := range map[*api.Ask]api.Errno{
		{Kind: api.AskSame}: api.ErrMany, {Kind: 15}: api.ErrKind, {Kind: api.AskNot}: api.ErrForm, {Kind: api.AskSame, N: 10000000}: api.ErrRange,
	} {
		if marks, e := query.Holds(*q, more); e != want || len(marks) != 0 {
			t.Errorf("Holds(%v) of too many: %d %d, not %d", *q, len(marks), e, want)
		}
	}
}

// TestM4Since: what held since holds on as long as the first one does; and begins with the second one alone.
func TestM4Since(t *testing.T) {
	r := rand.New(rand.NewSource(5))
	held := 0
	for range 4000 {
		a, b := sample.Ask(r.Intn), sample.Ask(r.Intn)
		q := of(api.AskSince, 0, a, b)
		if query.Check(q) != api.OK {
			continue
		}
		l := few(r, 20)
		since, _ := query.Holds(q, l)
		first, _ := query.Holds(a, l)
		second, _ := query.Holds(b, l)
		for time := range l {
			on := time > 0 && since[time-1] && first[time]
			if on && !second[time] {
				held++
			}
			if since[time] != (on || second[time]) {
				t.Fatalf("%v of %v, at %d: %v, first %v, second %v", q, l, time, since, first, second)
			}
		}
	}
	if held < 500 {
		t.Errorf("it held on %d times", held)
	}
}
