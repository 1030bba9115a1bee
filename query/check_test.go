package query_test

import (
	"math"
	"math/rand"
	"testing"

	"hindsight/api"
	"hindsight/query"
	"hindsight/sample"
)

// leaf: a query that is right by itself.
func leaf() api.Ask { return api.Ask{Kind: api.AskPrint} }

// wrapped: a query in so many others, each of one.
func wrapped(times int, q api.Ask) api.Ask {
	for range times {
		q = api.Ask{Kind: api.AskOnce, Args: []api.Ask{q}}
	}
	return q
}

// paired: a query of so many pairs, which is right.
func paired(pairs int) api.Ask {
	if pairs == 0 {
		return leaf()
	}
	half := (pairs - 1) / 2
	return api.Ask{Kind: api.AskOr, Args: []api.Ask{paired(half), paired(pairs - 1 - half)}}
}

// argsOf a kind, as M1 has it; -1, if it is none.
func argsOf(kind int) int {
	switch {
	case kind < 1 || kind > 14:
		return -1
	case kind <= 6:
		return 0
	case kind == 8 || kind == 9 || kind == 13:
		return 2
	}
	return 1
}

// expectCheck of a query, which all calls say that are handed one.
func expectCheck(t *testing.T, q api.Ask, want api.Errno) {
	t.Helper()
	if e := query.Check(q); e != want {
		t.Errorf("Check(%v): %d, not %d", q, e, want)
	}
	if s, e := query.Print(q); e != want || (s != "") != (want == api.OK) {
		t.Errorf("Print(%v): %q %d, not %d", q, s, e, want)
	}
	for _, l := range [][]api.Event{nil, make([]api.Event, 2)} {
		if h, e := query.Holds(q, l); e != want || want == api.OK && len(h) != len(l) || want != api.OK && len(h) != 0 {
			t.Errorf("Holds(%v, %v): %v %d, not %d", q, l, h, e, want)
		}
	}
}

func TestM1KindsAndArgs(t *testing.T) {
	for kind := -3; kind <= 20; kind++ {
		for args := range 5 {
			q := api.Ask{Kind: kind}
			for range args {
				q.Args = append(q.Args, leaf())
			}
			want := api.OK
			if argsOf(kind) < 0 {
				want = api.ErrKind
			} else if argsOf(kind) != args {
				want = api.ErrForm
			}
			expectCheck(t, q, want)
		}
	}
	expectCheck(t, api.Ask{Kind: math.MinInt}, api.ErrKind)
	expectCheck(t, api.Ask{Kind: math.MaxInt}, api.ErrKind)
	expectCheck(t, api.Ask{Kind: api.AskPrint, Args: []api.Ask{}}, api.OK)
}

func TestM1Numbers(t *testing.T) {
	for kind := 1; kind <= 14; kind++ {
		least, most := 0, 0
		switch kind {
		case api.AskStep, api.AskWrite, api.AskCall:
			least, most = -1, 9999999
		case api.AskLess, api.AskSame:
			least, most = -9999999, 9999999
		case api.AskSoon:
			most = 4000
		}
		for _, n := range []int{math.MinInt, -10000000, -9999999, -4000, -2, -1, 0, 1, 2, 3999, 4000, 4001, 9999999, 10000000, math.MaxInt} {
			q := api.Ask{Kind: kind, N: n}
			for range argsOf(kind) {
				q.Args = append(q.Args, leaf())
			}
			want := api.OK
			if n < least || n > most {
				want = api.ErrRange
			}
			expectCheck(t, q, want)
		}
	}
}

func TestM1Many(t *testing.T) {
	expectCheck(t, wrapped(14, leaf()), api.OK)
	expectCheck(t, wrapped(15, leaf()), api.ErrMany)
	expectCheck(t, paired(7), api.OK)
	expectCheck(t, paired(8), api.ErrMany)
	expectCheck(t, wrapped(12, paired(1)), api.OK)
	expectCheck(t, wrapped(13, paired(1)), api.ErrMany)
	// parts that must not be there are parts, too
	expectCheck(t, api.Ask{Kind: api.AskOr, Args: make([]api.Ask, 14)}, api.ErrForm)
	expectCheck(t, api.Ask{Kind: api.AskOr, Args: make([]api.Ask, 15)}, api.ErrMany)
	expectCheck(t, api.Ask{Kind: api.AskPrint, Args: []api.Ask{wrapped(13, leaf())}}, api.ErrForm)
	expectCheck(t, api.Ask{Kind: api.AskPrint, Args: []api.Ask{wrapped(14, leaf())}}, api.ErrMany)
	expectCheck(t, api.Ask{Kind: api.AskOr, Args: []api.Ask{paired(6), {Kind: api.AskPrint, Args: make([]api.Ask, 1)}}}, api.ErrMany)
	if e := query.Check(api.Ask{Args: make([]api.Ask, 1<<20)}); e != api.ErrMany {
		t.Errorf("so many Args: %d", e)
	}
}

// TestM1InItself: counting stops, even where a list has itself in it.
func TestM1InItself(t *testing.T) {
	for _, q := range []api.Ask{{Kind: api.AskNot}, {}, {Kind: api.AskAnd}} {
		l := []api.Ask{q, q}[:max(1, argsOf(q.Kind))]
		for i := range l {
			l[i].Args = l
		}
		if e := query.Check(l[0]); e != api.ErrMany {
			t.Errorf("%d", e)
		}
		if _, e := query.Holds(l[0], nil); e != api.ErrMany {
			t.Errorf("%d", e)
		}
		if s, e := query.Print(l[0]); e != api.ErrMany || s != "" {
			t.Errorf("%q %d", s, e)
		}
	}
}

// TestM1Order: too many parts, then part by part, each ahead of its Args; of one part the kind, then its Args, then its number.
func TestM1Order(t *testing.T) {
	noKind, noForm, noRange := api.Ask{Kind: 15, N: 7, Args: make([]api.Ask, 1)}, api.Ask{Kind: api.AskStep, N: -2, Args: []api.Ask{{}}}, api.Ask{Kind: api.AskSoon, N: 4001, Args: []api.Ask{{}}}
	expectCheck(t, noKind, api.ErrKind)
	expectCheck(t, noForm, api.ErrForm)
	expectCheck(t, noRange, api.ErrRange)
	expectCheck(t, wrapped(13, noKind), api.ErrKind)
	expectCheck(t, wrapped(14, noKind), api.ErrMany)
	wrong := []api.Ask{noKind, noForm, noRange}
	why := []api.Errno{api.ErrKind, api.ErrForm, api.ErrRange}
	for i, a := range wrong {
		expectCheck(t, api.Ask{Kind: api.AskNot, N: 1, Args: []api.Ask{a}}, api.ErrRange)
		expectCheck(t, api.Ask{Kind: api.AskNot, Args: []api.Ask{a, a}}, api.ErrForm)
		expectCheck(t, api.Ask{Kind: api.AskSince, Args: []api.Ask{leaf(), a}}, why[i])
		expectCheck(t, wrapped(5, a), why[i])
		for _, b := range wrong {
			expectCheck(t, api.Ask{Kind: api.AskSince, Args: []api.Ask{a, b}}, why[i])
			expectCheck(t, api.Ask{Kind: api.AskAnd, Args: []api.Ask{wrapped(3, a), b}}, why[i])
		}
	}
}

func TestM1Samples(t *testing.T) {
	r := rand.New(rand.NewSource(1))
	for range 2000 {
		expectCheck(t, sample.Ask(r.Intn), api.OK)
	}
}
