package trace_test

import (
	"math"
	"math/rand"
	"slices"
	"testing"

	"hindsight/api"
	"hindsight/sample"
	"hindsight/trace"
)

// expectRight: whether a list is the beginning of a trace.
func expectRight(t *testing.T, p api.Program, l []api.Event, want bool) {
	t.Helper()
	if ok, e := trace.Right(p, l); ok != want || e != api.OK {
		t.Errorf("Right(%v, %v): %v %d, not %v", p, l, ok, e, want)
	}
}

// TestE3Beginnings: each beginning of a trace, with any fuel.
func TestE3Beginnings(t *testing.T) {
	r := rand.New(rand.NewSource(1))
	for range 500 {
		p := sample.Program(r.Intn)
		in := make([]int, r.Intn(api.MaxInput+1))
		for i := range in {
			in[i] = edges()[r.Intn(len(edges()))]
		}
		l := run(t, p, in, []int{r.Intn(20), r.Intn(api.MaxFuel), api.MaxFuel}[r.Intn(3)])
		expectRight(t, p, l, true)
		for range 10 {
			expectRight(t, p, l[:r.Intn(len(l)+1)], true)
		}
		expectRight(t, p, append(slices.Clone(l), api.Event{}), false)
		expectRight(t, p, append(slices.Clone(l), done()), false)
	}
}

// changed: a list in which one thing is otherwise.
func changed(r *rand.Rand, l []api.Event) []api.Event {
	l = slices.Clone(l)
	i := r.Intn(len(l))
	switch r.Intn(4) {
	case 0:
		return slices.Delete(l, i, i+1)
	case 1:
		return slices.Insert(l, i, l[r.Intn(len(l))])
	case 2:
		return append(l[:i], end(l[i].Frame, l[i].At, r.Intn(5)))
	}
	field := []*int{&l[i].Kind, &l[i].Frame, &l[i].At, &l[i].Var, &l[i].Index, &l[i].Value}[r.Intn(6)]
	*field += r.Intn(3) - 1
	return l
}

// isRight, found out by each fuel that there may be.
func isRight(t *testing.T, p api.Program, l []api.Event) bool {
	var in []int
	for _, x := range l {
		if x.Kind == api.EventRead {
			in = append(in, x.Value)
		}
	}
	for fuel := range api.MaxFuel + 1 {
		m := run(t, p, in, fuel)
		if len(l) <= len(m) && slices.Equal(l, m[:len(l)]) {
			return true
		}
		if m[len(m)-1].Value != api.EndFuel {
			break
		}
	}
	return false
}

func TestE3Changed(t *testing.T) {
	const s = "func f(n) { var x; x = read; while (0 < n) { n = (n - 1); } return (x / n); } main { arr a 2; var y; y = read; a[y] = y; if y { y = f(2); } else { y = read; } print y; }"
	r := rand.New(rand.NewSource(2))
	found := [2]int{}
	for range 3000 {
		p := program(t, s)
		if r.Intn(2) == 0 {
			p = sample.Program(r.Intn)
		}
		l := changed(r, run(t, p, []int{r.Intn(3), r.Intn(2)}, r.Intn(12)))
		want := isRight(t, p, l)
		if want {
			found[1]++
		} else {
			found[0]++
		}
		expectRight(t, p, l, want)
	}
	if found[0] < 300 || found[1] < 300 {
		t.Errorf("%v", found)
	}
}

// TestE3Fuel: a trace ends where a command is come to, after any steps, but not more than MaxFuel.
func TestE3Fuel(t *testing.T) {
	p := program(t, "main { var x; while 1 { x = (x + 1); } }")
	l := run(t, p, nil, api.MaxFuel)
	for i := range l {
		expectRight(t, p, append(slices.Clone(l[:i]), end(0, l[i].At, api.EndFuel)), l[i].Kind == api.EventStep || l[i].Kind == api.EventEnd)
		expectRight(t, p, append(slices.Clone(l[:i]), end(0, 1-l[i].At, api.EndFuel)), false)
	}
	expectRight(t, p, append(slices.Clone(l[:len(l)-1]), step(0, 0)), false)
	expectRight(t, p, append(slices.Clone(l[:len(l)-1]), step(0, 0), end(0, 1, api.EndFuel)), false)
	expectRight(t, p, append(slices.Clone(l[:3]), end(0, 0, api.EndFuel), step(0, 0)), false)
}

// TestE3Input: what came in may be any number that may come in, as many as may.
func TestE3Input(t *testing.T) {
	p := program(t, "main { var x; while 1 { x = read; } }")
	reads := func(values ...int) []api.Event {
		l := []api.Event{}
		for _, n := range values {
			l = append(l, step(0, 0), step(0, 1), read(0, 1, n), write(0, 1, 0, 0, n))
		}
		return l
	}
	for _, n := range []int{0, 1, api.Most, api.Least} {
		expectRight(t, p, reads(n), true)
		expectRight(t, p, reads(n)[:3], true)
		expectRight(t, p, reads(0, 0, n, 0), true)
	}
	for _, n := range []int{api.Most + 1, api.Least - 1, math.MaxInt, math.MinInt} {
		expectRight(t, p, reads(n), false)
		expectRight(t, p, reads(n)[:3], false)
		expectRight(t, p, reads(0, 0, n), false)
	}
	all := make([]int, api.MaxInput+10)
	for i := range api.MaxInput {
		all[i] = i + 1
	}
	expectRight(t, p, reads(all...), true)
	for i := api.MaxInput; i < len(all); i++ {
		all[i] = 1
		expectRight(t, p, reads(all...), false)
		expectRight(t, p, reads(all[:i]...), true)
		all[i] = api.Most + 1
		expectRight(t, p, reads(all...), false)
		all[i] = 0
	}
	// there, what comes next is not what came
	expectRight(t, p, append(reads(1), step(0, 0), step(0, 1), read(0, 1, 2), write(0, 1, 0, 0, 1)), false)
}

func TestE3Errors(t *testing.T) {
	right := program(t, "main { print 1; }")
	for _, row := range []struct {
		p   api.Program
		n   int
		why api.Errno
	}{
		{api.Program{}, 0, api.ErrForm},
		{api.Program{}, api.MaxTrace + 1, api.ErrForm},
		{api.Program{Funcs: []api.Func{{Params: 1}}}, api.MaxTrace + 1, api.ErrRange},
		{right, api.MaxTrace + 1, api.ErrMany},
		{right, api.MaxTrace, api.OK},
		{right, 1, api.OK},
	} {
		if ok, e := trace.Right(row.p, make([]api.Event, row.n)); ok || e != row.why {
			t.Errorf("Right(%v, %d): %v %d, not %d", row.p, row.n, ok, e, row.why)
		}
	}
	expectRight(t, right, nil, true)
	expectRight(t, right, []api.Event{}, true)
}

// TestE3Longest: no trace is too long to be looked at.
func TestE3Longest(t *testing.T) {
	p := program(t, "func f(a, b, c) { return a; } main { var x; while 1 { x = f(1, 2, 3); x = f(1, 2, 3); x = f(1, 2, 3); x = f(1, 2, 3); x = f(1, 2, 3); x = f(1, 2, 3); x = f(1, 2, 3); x = f(1, 2, 3); x = f(1, 2, 3); x = f(1, 2, 3); x = f(1, 2, 3); x = f(1, 2, 3); x = f(1, 2, 3); x = f(1, 2, 3); x = f(1, 2, 3); x = f(1, 2, 3); x = f(1, 2, 3); x = f(1, 2, 3); x = f(1, 2, 3); } }")
	l := run(t, p, nil, api.MaxFuel)
	if len(l) < 3000 || len(l) > api.MaxTrace {
		t.Errorf("%d events", len(l))
	}
	expectRight(t, p, l, true)
}
