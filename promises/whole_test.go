package promises_test

import (
	"math/rand"
	"reflect"
	"slices"
	"testing"

	"hindsight/api"
	"hindsight/code"
	"hindsight/column"
	"hindsight/disk"
	"hindsight/log"
	"hindsight/query"
	"hindsight/sample"
	"hindsight/scope"
	"hindsight/session"
	"hindsight/show"
	"hindsight/state"
	"hindsight/token"
	"hindsight/trace"
	"hindsight/tree"
	"hindsight/vm"
	"hindsight/when"
)

// story: a program's text, what comes in, and how much fuel there is.
type story struct {
	s    string
	p    api.Program
	in   []int
	fuel int
}

// stories that are drawn; some of them go on for long, with frames in one another and cells.
func stories(seed int64, count int) []story {
	r := rand.New(rand.NewSource(seed))
	var l []story
	for range count {
		s := anyOf(r, sample.Text(r.Intn),
			"func f(n) { var r; arr a 2; a[1] = n; if n { r = f((n - 1)); } return r; } main { arr b 3; var x; while 1 { x = read; b[2] = x; x = f(x); print x; } }",
			"main { arr a 4; var i; while (i < 4) { a[i] = (i * i); i = (i + 1); } while (0 < i) { i = (i - 1); print a[i]; } }")
		p, _, _ := scope.Program(s)
		l = append(l, story{s, p, []int{r.Intn(3), 2, r.Intn(9) - 4, api.Most, api.Least}[:r.Intn(6)], r.Intn(80)})
	}
	return l
}

func (x story) trace() []api.Event {
	l, _ := trace.Run(x.p, x.in, x.fuel)
	return l
}

func TestWholeJoinedIsScannedAsItWas(t *testing.T) {
	for _, x := range stories(1, 200) {
		l, _, e := token.Scan(x.s)
		s, f := token.Join(l)
		m, _, g := token.Scan(s)
		areAlike := func(a, b api.Token) bool { return a.Kind == b.Kind && a.Text == b.Text }
		if max(e, f, g) != api.OK || !slices.EqualFunc(l, m, areAlike) {
			t.Fatalf("%q: %v %d, then %q %d, then %v %d", x.s, l, e, s, f, m, g)
		}
	}
}

func TestWholeShownIsParsedToTheSame(t *testing.T) {
	for _, x := range stories(2, 200) {
		u, _, e := tree.Parse(x.s)
		s, f := show.Show(u)
		v, _, g := tree.Parse(s)
		if max(e, f, g) != api.OK || !show.Same(u, v) {
			t.Fatalf("%q: %v %d, then %q %d, then %v %d", x.s, u, e, s, f, v, g)
		}
	}
}

func TestWholeMoreFuelGoesOn(t *testing.T) {
	for _, x := range stories(3, 300) {
		l := x.trace()
		for _, more := range []int{1, 2, 30, 400} {
			m, e := trace.Run(x.p, x.in, x.fuel+more)
			if end := l[len(l)-1]; end.Value == api.EndFuel {
				next := api.Event{Kind: api.EventStep, Frame: end.Frame, At: end.At}
				if e != api.OK || len(m) <= len(l) || !slices.Equal(m[:len(l)], append(slices.Clone(l[:len(l)-1]), next)) {
					t.Fatalf("%s: %v, then %v", x.s, l, m)
				}
			} else if e != api.OK || !slices.Equal(l, m) {
				t.Fatalf("%s ended: %v, then %v", x.s, l, m)
			}
		}
	}
}

func TestWholeCompiledRunsAsTheProgram(t *testing.T) {
	for _, x := range stories(4, 300) {
		c, _ := code.Compile(x.p)
		l, ok, e := vm.Run(c, x.in, x.fuel)
		if e != api.OK || !ok || !slices.Equal(l, x.trace()) {
			t.Fatalf("%s: %v %v %d, not %v", x.s, l, ok, e, x.trace())
		}
	}
}

// TestWholeCrash: a run is recorded, and its last batch, or one more, is on its way as the crash comes.
func TestWholeCrash(t *testing.T) {
	r := rand.New(rand.NewSource(5))
	for _, x := range stories(5, 60) {
		d, _ := log.Format(150)
		d, n, _ := session.Record(d, x.s, x.in, x.fuel, 1+r.Intn(20))
		more := sample.Events(r.Intn, r.Intn(10))
		_, way, e := log.Append(d, more)
		if e != api.OK {
			continue
		}
		was := x.trace()[:n]
		for i, y := range way {
			keep := make([]bool, len(y.Written))
			for j := range keep {
				keep[j] = r.Intn(2) == 0
			}
			z, _ := disk.Crash(y, keep)
			l, e := session.Reopen(z)
			isThere := slices.Equal(l, append(slices.Clone(was), more...))
			if e != api.OK || !isThere && (!slices.Equal(l, was) || i == len(way)-1) {
				t.Fatalf("%s, step %d of %d: %v %d, not %v", x.s, i, len(way), l, e, was)
			}
		}
	}
}

func TestWholeEncodedIsDecodedAndNothingElse(t *testing.T) {
	r := rand.New(rand.NewSource(6))
	for _, x := range stories(6, 200) {
		l := x.trace()
		s, e := column.Encode(l)
		if m, f := column.Decode(s); max(e, f) != api.OK || !slices.Equal(l, m) {
			t.Fatalf("%v: %q %d, then %v %d", l, s, e, m, f)
		}
		other := []byte(s)
		other[r.Intn(len(other))] ^= byte(1 + r.Intn(255))
		if m, f := column.Decode(string(other)); f == api.OK {
			if again, _ := column.Encode(m); again != string(other) {
				t.Fatalf("%q is decoded to %v, which is %q", other, m, again)
			}
		}
	}
}

func TestWholeThenIsToldByWhatIsAhead(t *testing.T) {
	r := rand.New(rand.NewSource(7))
	for _, x := range stories(7, 200) {
		l := x.trace()
		time := r.Intn(len(l) + 1)
		f, e := state.At(x.p, l, time)
		g, why := state.At(x.p, l[:time], time)
		if e != api.OK || why != api.OK || !reflect.DeepEqual(f, g) {
			t.Fatalf("%s at %d: %v %d, and without what is behind %v %d", x.s, time, f, e, g, why)
		}
	}
}

func TestWholeSinceHoldsOn(t *testing.T) {
	r := rand.New(rand.NewSource(8))
	on := 0
	for _, x := range stories(8, 600) {
		l, a, b := x.trace(), sample.Ask(r.Intn), sample.Ask(r.Intn)
		q := api.Ask{Kind: api.AskSince, Args: []api.Ask{a, b}}
		since, e := query.Holds(q, l)
		if e != api.OK {
			continue
		}
		first, _ := query.Holds(a, l)
		for time := 1; time < len(l); time++ {
			if since[time-1] && first[time] {
				on++
				if !since[time] {
					t.Fatalf("%v of %v does not hold on at %d", q, l, time)
				}
			}
		}
	}
	if on < 500 {
		t.Errorf("it held on %d times", on)
	}
}

func TestWholeSpansHaveJustTheTimes(t *testing.T) {
	r := rand.New(rand.NewSource(9))
	for _, x := range stories(9, 400) {
		l, q := x.trace(), sample.Ask(r.Intn)
		times, _ := when.Times(q, l, 0, len(l))
		spans, _ := when.Spans(q, l)
		var inSpans []int
		for _, s := range spans {
			for time := s[0]; time < s[1]; time++ {
				inSpans = append(inSpans, time)
			}
		}
		if !slices.Equal(times, inSpans) {
			t.Fatalf("%v of %v: %v, not %v", q, l, spans, times)
		}
	}
}

// TestWholeRecordedIsReopened: and is what the program does; and it is asked without being run again.
func TestWholeRecordedIsReopened(t *testing.T) {
	r := rand.New(rand.NewSource(10))
	for _, x := range stories(10, 150) {
		d, _ := log.Format(4 + r.Intn(400))
		d, n, e := session.Record(d, x.s, x.in, x.fuel, 1+r.Intn(api.MaxBatch))
		l, f := session.Reopen(d)
		want := x.trace()
		if e != api.OK && (e != api.ErrSpace || n == len(want)) || e == api.OK && n != len(want) || f != api.OK || !slices.Equal(l, want[:n]) {
			t.Fatalf("%s: %d events, %d, then %v %d, not %v", x.s, n, e, l, f, want)
		}
		if ok, e := trace.Right(x.p, l); !ok || e != api.OK {
			t.Fatalf("%s: %v is not right", x.s, l)
		}
	}
}
