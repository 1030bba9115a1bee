package session_test

import (
	"fmt"
	"math/rand"
	"strings"
	"testing"

	"hindsight/api"
	"hindsight/disk"
	"hindsight/log"
	"hindsight/query"
	"hindsight/sample"
	"hindsight/scope"
	"hindsight/session"
	"hindsight/state"
)

// recorded: a disk that has a run.
func recorded(t *testing.T, s string, in []int, fuel, batch int) api.Disk {
	t.Helper()
	d, _, e := session.Record(formatted(t, api.MaxSectors), s, in, fuel, batch)
	if e != api.OK {
		t.Fatalf("Record of %s: %d", s, e)
	}
	return d
}

func expectAnswer(t *testing.T, d api.Disk, s, q string, want ...string) {
	t.Helper()
	text := ""
	for _, l := range want {
		text += l + "\n"
	}
	if got, e := session.Answer(d, s, q); got != text || e != api.OK {
		t.Errorf("Answer of %.80q to %.80q: %q %d, not %q", s, q, got, e, text)
	}
}

func TestO3Example(t *testing.T) {
	for batch := 1; batch <= 14; batch++ {
		d := recorded(t, twice, []int{5}, 40, batch)
		for q, want := range map[string][]string{
			"print":                      {"11 12", "frame 0 1 30 0,15"},
			"write 0":                    {"2 3", "7 8", "9 10", "frame 0 1 0 0,0"},
			"write 1":                    {"4 5", "frame 0 1 5 0,0"},
			"(write any and same 15)":    {"4 5", "7 8", "frame 0 1 5 0,0"},
			"call any":                   {"6 7", "frame 0 1 5 0,15"},
			"(not print since call 0)":   {"6 11", "frame 0 1 5 0,15"},
			"prev call any":              {"7 8", "frame 0 1 5 0,15", "frame 1 0 0"},
			"prev prev call any":         {"8 9", "frame 0 1 5 0,15", "frame 1 0 15"},
			"step any":                   {"0 1", "3 4", "5 6", "10 11", "frame 0 1 0 0,0"},
			"less 9999999":               {"0 13", "frame 0 1 0 0,0"},
			"call 1":                     nil,
			"same 31":                    nil,
			"soon 1 print":               {"10 12", "frame 0 1 30 0,15"},
			"prev once (print or print)": {"12 13", "frame 0 1 30 0,15"},
			" #no\n print\t":             {"11 12", "frame 0 1 30 0,15"},
		} {
			expectAnswer(t, d, twice, q, want...)
		}
	}
}

// TestO3Ends: a query that holds at no time, at the first one, at the last one, at all.
func TestO3Ends(t *testing.T) {
	const s = "main { var x; x = read; x = (x - 9); }"
	d := recorded(t, s, []int{7}, 40, 2)
	expectAnswer(t, d, s, "print")
	expectAnswer(t, d, s, "step 0", "0 1", "frame 0 0 0")
	expectAnswer(t, d, s, "not prev not print", "0 1", "frame 0 0 0")
	expectAnswer(t, d, s, "prev write 0", "3 4", "5 6", "frame 0 0 7")
	expectAnswer(t, d, s, "prev same -2", "5 6", "frame 0 0 -2")
	expectAnswer(t, d, s, "not print", "0 6", "frame 0 0 0")
	expectAnswer(t, d, s, "all step any", "0 1", "frame 0 0 0")
	d = recorded(t, nothing, nil, 0, 1)
	expectAnswer(t, d, nothing, "same 0", "0 1", "frame 0 0")
	expectAnswer(t, d, nothing, "step any")
	for _, q := range []string{"same 0", "not print", "print", "all print", "soon 4000 print"} {
		expectAnswer(t, formatted(t, 4), nothing, q)
		expectAnswer(t, formatted(t, 4), twice, q)
	}
}

// TestO3Frames: frames in one another, as many as there may be, of functions with cells and without.
func TestO3Frames(t *testing.T) {
	const s = "func f(n, m) { arr a 3; var r; a[n] = (m * -1000); if n { r = f((n - 1), (m + 1)); } else { print r; } return r; } func g() { arr b 8; var x; b[7] = -5; x = f(2, 1); return x; } main { var z; z = g(); z = g(); }"
	d := recorded(t, s, nil, api.MaxFuel, 17)
	g := "frame 1 1 0,0,0,0,0,0,0,-5 0"
	expectAnswer(t, d, s, "print", "26 27", "61 62", "frame 0 2 0", g, "frame 2 0 2 1 0,0,-1000 0", "frame 3 0 1 2 0,-2000,0 0", "frame 4 0 0 3 -3000,0,0 0")
	expectAnswer(t, d, s, "(prev once print and call 1)", "36 37", "frame 0 2 0")
	const deep = "func f(n) { n = f((n + 1)); return n; } main { var x; x = f(7); }"
	d = recorded(t, deep, nil, api.MaxFuel, 7)
	expectAnswer(t, d, deep, "(same 4 and not call any)", "16 17", "frame 0 1 0", "frame 1 0 7", "frame 2 0 8", "frame 3 0 9", "frame 4 0 10", "frame 5 0 11")
}

func TestO3Numbers(t *testing.T) {
	const s = "main { arr a 1; arr b 2; var x; var y; x = read; a[0] = x; y = read; b[1] = (y - 1); print 1; }"
	d := recorded(t, s, []int{api.Least, api.Most}, 40, 4)
	expectAnswer(t, d, s, "print", "11 12", "frame 0 0 -2147483648 0,2147483646 -2147483648 2147483647")
}

func TestO3Texts(t *testing.T) {
	d := recorded(t, twice, []int{5}, 40, 4)
	for s, at := range map[string]int{
		"": 0, "main": 4, "main {": 6, "main {} x": 8, "main { x = 1; }": 7, "  main { X = 1; }": 9, "main { var x; var x; }": 0, "main { arr a 9; }": 0,
		"main { print 12345678; }": 13, "func f() { return 1; } main { var x; x = f(1); }": 37, "main { print (1 + 2; }": 19, strings.Repeat(" ", api.MaxText): api.MaxText,
		"main {" + strings.Repeat(" ", api.MaxText-7) + "!": api.MaxText - 1,
	} {
		for _, x := range []api.Disk{d, formatted(t, 4)} {
			for _, q := range []string{"print", "", "(print", strings.Repeat(" ", api.MaxText)} {
				expectAnswer(t, x, s, q, fmt.Sprint("text ", at))
			}
		}
	}
}

func TestO3Queries(t *testing.T) {
	d := recorded(t, twice, []int{5}, 40, 4)
	sixteen := strings.Repeat("not ", api.MaxAsk) + "print"
	for q, at := range map[string]int{
		"": 0, "prin": 0, "(print": 6, "print print": 6, "step": 4, "step 1 2": 7, "not ?": 4, "(print and print]": 16, sixteen: 0, "step 12345678": 5, strings.Repeat(" ", api.MaxText): api.MaxText,
		"soon 4001 print": 0, strings.Repeat(" ", api.MaxText-5) + "prind": api.MaxText - 5,
	} {
		expectAnswer(t, d, twice, q, fmt.Sprint("query ", at))
		expectAnswer(t, d, nothing, q, fmt.Sprint("query ", at))
		expectAnswer(t, formatted(t, 4), nothing, q, fmt.Sprint("query ", at))
	}
	expectAnswer(t, d, twice, sixteen[len("not "):], "11 12", "frame 0 1 30 0,15")
}

// TestO3Other: what another program did, or this one twice, or nobody.
func TestO3Other(t *testing.T) {
	d := recorded(t, twice, []int{5}, 40, 4)
	for _, s := range []string{nothing, loop, strings.Replace(twice, "3", "4", 1), strings.Replace(twice, "(n + n)", "(n * n)", 1), strings.Replace(twice, "print x;", "", 1), strings.Replace(twice, "print x;", "print x; print x;", 1)} {
		expectAnswer(t, d, s, "print", "other")
		expectAnswer(t, d, s, "all not print", "other")
	}
	more, _, _ := session.Record(d, twice, []int{5}, 40, 4)
	expectAnswer(t, more, twice, "print", "other")
	for _, x := range []api.Event{{}, {Kind: api.EventEnd, At: -1}, {Kind: api.EventPrint, At: 4, Value: 1}} {
		other, _, _ := log.Append(formatted(t, 10), []api.Event{x})
		expectAnswer(t, other, twice, "print", "other")
		other, _, _ = log.Append(d, []api.Event{x})
		expectAnswer(t, other, twice, "print", "other")
	}
	// Other names, and what was not come to, are not seen in a trace.
	for _, s := range []string{strings.ReplaceAll(twice, "x", "other"), strings.Replace(twice, "main", "# that is all\n\n main", 1)} {
		expectAnswer(t, d, s, "print", "11 12", "frame 0 1 30 0,15")
	}
	d = recorded(t, loop, nil, 0, 1)
	expectAnswer(t, d, twice, "print")
	expectAnswer(t, d, nothing, "print", "other")
}

// TestO3Beginning: of a run that found no room there is a beginning, and it is asked as all are.
func TestO3Beginning(t *testing.T) {
	d, n, e := session.Record(formatted(t, 13), twice, []int{5}, 40, 4)
	if n != 8 || e != api.ErrSpace {
		t.Fatalf("%d events, %d", n, e)
	}
	expectAnswer(t, d, twice, "print")
	expectAnswer(t, d, twice, "write 0", "2 3", "7 8", "frame 0 1 0 0,0")
	expectAnswer(t, d, twice, "prev call any", "7 8", "frame 0 1 5 0,15", "frame 1 0 0")
	expectAnswer(t, d, nothing, "print", "other")
	d, _, _ = log.Append(d, []api.Event{{Kind: api.EventBack, Frame: 1, At: 2, Value: 30}})
	expectAnswer(t, d, twice, "same 30", "8 9", "frame 0 1 5 0,15", "frame 1 0 15")
}

func TestO3Errors(t *testing.T) {
	d := recorded(t, twice, []int{5}, 40, 4)
	blank, _ := disk.New(20)
	most, long := strings.Repeat(" ", api.MaxText), strings.Repeat(" ", api.MaxText+1)
	for _, row := range []struct {
		d    api.Disk
		s, q string
		want api.Errno
	}{
		{d, long, "print", api.ErrMany}, {d, twice, long, api.ErrMany}, {d, long, long, api.ErrMany},
		{d, "main", long, api.ErrMany}, {d, long, "(", api.ErrMany}, {d, nothing, long, api.ErrMany}, {d, most, long, api.ErrMany}, {d, long, most, api.ErrMany},
		{d, twice + long, "print", api.ErrMany}, {d, twice, "print" + long, api.ErrMany},
		{api.Disk{}, twice, "print", api.ErrRange}, {api.Disk{}, "", "", api.ErrRange}, {api.Disk{}, long, long, api.ErrRange},
		{api.Disk{Kept: []string{""}}, long, "print", api.ErrForm}, {api.Disk{Kept: []string{""}}, twice, long, api.ErrForm},
		{blank, twice, "print", api.ErrState}, {blank, "", "print", api.ErrState}, {blank, twice, "", api.ErrState}, {blank, long, long, api.ErrState},
	} {
		if s, e := session.Answer(row.d, row.s, row.q); s != "" || e != row.want {
			t.Errorf("Answer of %.40q to %.40q: %q %d, not %d", row.s, row.q, s, e, row.want)
		}
	}
	expectAnswer(t, d, twice+most[len(twice):], "print"+most[len("print"):], "11 12", "frame 0 1 30 0,15")
}

// TestO3Longest: as many events as a disk may have, and spans of one event each.
func TestO3Longest(t *testing.T) {
	d, n, _ := session.Record(formatted(t, api.MaxSectors), loop, nil, api.MaxFuel, api.MaxBatch)
	if n < 500 {
		t.Fatalf("%d events", n)
	}
	var want []string
	for time := 2; time < n; time += 3 {
		want = append(want, fmt.Sprint(time, " ", time+1))
	}
	expectAnswer(t, d, loop, "write 0", append(want, "frame 0 0 0")...)
	expectAnswer(t, d, loop, "same 77", fmt.Sprint(77*3-1, " ", 77*3), "frame 0 0 76")
}

// answered: what must be answered, each time and each frame asked one by one.
func answered(p api.Program, l []api.Event, q api.Ask) string {
	text, first, begin := "", -1, -1
	holds, _ := query.Holds(q, l)
	for time := range len(l) + 1 {
		isSo := time < len(l) && holds[time]
		if isSo && first < 0 {
			first = time
		}
		if isSo && begin < 0 {
			begin = time
		}
		if !isSo && begin >= 0 {
			text += fmt.Sprintf("%d %d\n", begin, time)
			begin = -1
		}
	}
	if first < 0 {
		return text
	}
	// Ahead of it alone: what comes behind tells nothing of it.
	frames, _ := state.At(p, l[:first], first)
	for _, f := range frames {
		text += fmt.Sprintf("frame %d %d", f.Number, f.Func)
		for _, v := range f.Vars {
			text += " " + strings.ReplaceAll(strings.Trim(fmt.Sprint(v), "[]"), " ", ",")
		}
		text += "\n"
	}
	return text
}

func TestO3Samples(t *testing.T) {
	r := rand.New(rand.NewSource(3))
	texts := []string{twice, "func f(n) { var r; arr a 2; a[1] = n; if n { r = f((n - 1)); } return r; } main { arr b 3; var x; while 1 { x = read; b[2] = x; x = f(x); print x; } }"}
	long := 0
	for range 400 {
		s := sample.Text(r.Intn)
		if r.Intn(2) == 0 {
			s = texts[r.Intn(2)]
		}
		in, fuel := []int{r.Intn(3), 2, r.Intn(9) - 4, api.Most, api.Least}[:r.Intn(6)], r.Intn(60)
		d, n, _ := session.Record(formatted(t, 4+r.Intn(150)), s, in, fuel, 1+r.Intn(api.MaxBatch))
		p, _, _ := scope.Program(s)
		l := traced(t, s, in, fuel)[:n]
		for range 20 {
			q := sample.Ask(r.Intn)
			text, _ := query.Print(q)
			got, e := session.Answer(d, s, text)
			if want := answered(p, l, q); got != want || e != api.OK {
				t.Fatalf("Answer of %s to %s: %q %d, not %q", s, text, got, e, want)
			}
			if strings.Count(got, "frame") > 1 {
				long++
			}
		}
	}
	if long < 100 {
		t.Errorf("%d answers with more than one frame", long)
	}
}

// TestP3Answers: what is answered hangs on nothing that was asked ahead.
func TestP3Answers(t *testing.T) {
	d := recorded(t, twice, []int{5}, 40, 4)
	first, _ := session.Answer(d, twice, "write any")
	for _, q := range []string{"print", "(", "", "not write any", "once print"} {
		session.Answer(d, twice, q)
		session.Answer(d, loop, q)
		session.Record(d, loop, nil, 40, 3)
		if again, e := session.Answer(d, twice, "write any"); again != first || e != api.OK {
			t.Errorf("behind %q: %q %d, not %q", q, again, e, first)
		}
	}
}
