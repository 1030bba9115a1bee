package column_test

import (
	"encoding/binary"
	"math"
	"math/rand"
	"slices"
	"testing"

	"hindsight/api"
	"hindsight/code"
	"hindsight/column"
	"hindsight/sample"
	"hindsight/vm"
)

// event of six numbers.
func event(l ...int) api.Event {
	return api.Event{Kind: l[0], Frame: l[1], At: l[2], Var: l[3], Index: l[4], Value: l[5]}
}

// values: an event for each number, which is its Value.
func values(l ...int) []api.Event {
	var events []api.Event
	for _, n := range l {
		events = append(events, api.Event{Value: n})
	}
	return events
}

func expectText(t *testing.T, l []api.Event, want string) {
	t.Helper()
	if s, e := column.Encode(l); s != want || e != api.OK {
		t.Errorf("Encode(%v): %q %d, not %q", l, s, e, want)
	}
	expectEvents(t, want, l)
}

func expectEvents(t *testing.T, s string, want []api.Event) {
	t.Helper()
	if l, e := column.Decode(s); !slices.Equal(l, want) || e != api.OK {
		t.Errorf("Decode(%q): %v %d, not %v", s, l, e, want)
	}
}

func expectNoText(t *testing.T, l []api.Event, why api.Errno) {
	t.Helper()
	if s, e := column.Encode(l); s != "" || e != why {
		t.Errorf("Encode of %d events: %q %d, not %d", len(l), s, e, why)
	}
}

func expectNoEvents(t *testing.T, s string, why api.Errno) {
	t.Helper()
	if l, e := column.Decode(s); len(l) > 0 || e != why {
		t.Errorf("Decode(%q): %v %d, not %d", s, l, e, why)
	}
}

// zeros: so many naturals 0.
func zeros(n int) string { return string(make([]byte, n)) }

func TestJ1Columns(t *testing.T) {
	expectText(t, nil, "\x00")
	expectText(t, []api.Event{}, "\x00")
	expectText(t, []api.Event{event(1, 2, 3, 4, 5, 6)}, "\x01\x02\x04\x06\x08\x0a\x0c")
	expectText(t, []api.Event{event(1, 2, 3, 4, 5, 6), event(1, 3, 5, 0, 4, -6), event(2, 2, 2, 2, 2, 2)},
		"\x03"+"\x02\x00\x02"+"\x04\x02\x01"+"\x06\x04\x05"+"\x08\x07\x04"+"\x0a\x01\x03"+"\x0c\x17\x10")
}

func TestJ1Numbers(t *testing.T) {
	for _, row := range []struct {
		n    int
		want string
	}{
		{0, "\x00"}, {1, "\x02"}, {-1, "\x01"}, {2, "\x04"}, {-2, "\x03"},
		{63, "\x7e"}, {-64, "\x7f"}, {64, "\x80\x01"}, {-65, "\x81\x01"},
		{8191, "\xfe\x7f"}, {-8192, "\xff\x7f"}, {8192, "\x80\x80\x01"}, {-8193, "\x81\x80\x01"},
		{1<<20 - 1, "\xfe\xff\x7f"}, {-1 << 20, "\xff\xff\x7f"}, {1 << 20, "\x80\x80\x80\x01"}, {-1<<20 - 1, "\x81\x80\x80\x01"},
		{1<<27 - 1, "\xfe\xff\xff\x7f"}, {-1 << 27, "\xff\xff\xff\x7f"}, {1 << 27, "\x80\x80\x80\x80\x01"}, {-1<<27 - 1, "\x81\x80\x80\x80\x01"},
		{api.Most, "\xfe\xff\xff\xff\x0f"}, {api.Least, "\xff\xff\xff\xff\x0f"},
	} {
		expectText(t, values(row.n), "\x01"+zeros(5)+row.want)
		expectText(t, []api.Event{{Kind: row.n}}, "\x01"+row.want+zeros(5))
		expectText(t, []api.Event{{At: row.n}}, "\x01"+zeros(2)+row.want+zeros(3))
	}
	expectText(t, values(api.Least, api.Most), "\x02"+zeros(10)+"\xff\xff\xff\xff\x0f"+"\xfe\xff\xff\xff\x1f")
	expectText(t, values(api.Most, api.Least), "\x02"+zeros(10)+"\xfe\xff\xff\xff\x0f"+"\xfd\xff\xff\xff\x1f")
}

func TestJ1Counts(t *testing.T) {
	for _, row := range []struct {
		n    int
		want string
	}{
		{1, "\x01"}, {127, "\x7f"}, {128, "\x80\x01"}, {api.MaxTrace, "\xa0\x1f"},
	} {
		expectText(t, make([]api.Event, row.n), row.want+zeros(6*row.n))
	}
}

func TestJ1Errors(t *testing.T) {
	expectNoText(t, make([]api.Event, api.MaxTrace+1), api.ErrMany)
	expectNoText(t, slices.Repeat(values(api.Most+1), api.MaxTrace+1), api.ErrMany)
	for _, n := range []int{api.Most + 1, api.Least - 1, math.MaxInt, math.MinInt} {
		for i := range 6 {
			l := make([]int, 6)
			l[i] = n
			expectNoText(t, []api.Event{event(l...)}, api.ErrRange)
			expectNoText(t, []api.Event{event(l...), {}, {}}, api.ErrRange)
			expectNoText(t, append(make([]api.Event, api.MaxTrace-1), event(l...)), api.ErrRange)
		}
	}
}

// plain: events as the library of the language tells numbers.
func plain(l []api.Event) string {
	s := binary.AppendUvarint(nil, uint64(len(l)))
	for _, of := range []func(e api.Event) int{
		func(e api.Event) int { return e.Kind },
		func(e api.Event) int { return e.Frame },
		func(e api.Event) int { return e.At },
		func(e api.Event) int { return e.Var },
		func(e api.Event) int { return e.Index },
		func(e api.Event) int { return e.Value },
	} {
		before := 0
		for _, e := range l {
			s = binary.AppendVarint(s, int64(of(e)-before))
			before = of(e)
		}
	}
	return string(s)
}

func TestJ1Any(t *testing.T) {
	r := rand.New(rand.NewSource(1))
	for range 2000 {
		l := sample.Events(r.Intn, r.Intn(20))
		expectText(t, l, plain(l))
	}
	l := sample.Events(r.Intn, api.MaxTrace)
	expectText(t, l, plain(l))
}

func TestJ2Errors(t *testing.T) {
	for _, row := range []struct {
		s   string
		why api.Errno
	}{
		// no natural
		{"", api.ErrForm}, {"\x80", api.ErrForm}, {"\xff\xff\xff\xff\xff", api.ErrForm},
		{"\x80\x00", api.ErrForm}, {"\xa1\x9f\x00", api.ErrForm}, {"\xff\xff\xff\xff\xff\x00", api.ErrForm},
		{"\xff\xff\xff\xff\xff\xff", api.ErrForm}, {"\xff\xff\xff\xff\xff\xff\x01", api.ErrForm}, {"\x80\x80\x80\x80\x80\x80\x01", api.ErrForm},
		// too many
		{"\xa1\x1f", api.ErrMany}, {"\xa1\x1f\x80", api.ErrMany}, {"\xa1\x1f" + zeros(6*4001), api.ErrMany},
		{"\x80\x80\x01", api.ErrMany}, {"\x80\x80\x80\x80\x80\x01", api.ErrMany}, {"\xff\xff\xff\xff\xff\x7f", api.ErrMany},
		// too short, or too long
		{"\xa0\x1f", api.ErrForm}, {"\xa0\x1f" + zeros(6*4000-1), api.ErrForm}, {"\xa0\x1f" + zeros(6*4000+1), api.ErrForm},
		{"\x00\x00", api.ErrForm}, {"\x00\x80", api.ErrForm}, {"\x01" + zeros(5), api.ErrForm}, {"\x01" + zeros(7), api.ErrForm}, {"\x01" + zeros(6) + "\x80", api.ErrForm},
		// numbers that are no naturals
		{"\x01\x80\x00" + zeros(5), api.ErrForm}, {"\x01" + zeros(5) + "\x82\x00", api.ErrForm}, {"\x01" + zeros(5) + "\x82", api.ErrForm},
		{"\x01\x80\x80\x80\x80\x80\x80\x01" + zeros(5), api.ErrForm}, {"\x01\x80\x80\x80\x80\x80\x00" + zeros(5), api.ErrForm},
		// numbers beyond those of runs
		{"\x01\x80\x80\x80\x80\x10" + zeros(5), api.ErrForm}, {"\x01\x81\x80\x80\x80\x10" + zeros(5), api.ErrForm},
		{"\x01\xff\xff\xff\xff\xff\x7f" + zeros(5), api.ErrForm}, {"\x01\xfe\xff\xff\xff\xff\x7f" + zeros(5), api.ErrForm},
		{"\x02" + zeros(10) + "\xfe\xff\xff\xff\x0f\x02", api.ErrForm}, {"\x02" + zeros(10) + "\xff\xff\xff\xff\x0f\x01", api.ErrForm},
		{"\x02" + zeros(10) + "\x80\x80\x80\x80\x10\x01", api.ErrForm},
	} {
		expectNoEvents(t, row.s, row.why)
	}
	expectEvents(t, "\x02"+zeros(10)+"\xfe\xff\xff\xff\x0f\x01", values(api.Most, api.Most-1))
	expectEvents(t, "\x02"+zeros(10)+"\xff\xff\xff\xff\x0f\x02", values(api.Least, api.Least+1))
}

// TestJ2Short: each short text has just what can be told of it.
func TestJ2Short(t *testing.T) {
	for a := range 256 {
		one := string([]byte{byte(a)})
		if a == 0 {
			expectEvents(t, one, nil)
		} else {
			expectNoEvents(t, one, api.ErrForm)
		}
		for b := range 256 {
			want := api.ErrForm
			// of two bytes with bits of both
			if a >= 128 && b < 128 && b*128+a-128 > api.MaxTrace {
				want = api.ErrMany
			}
			expectNoEvents(t, one+string([]byte{byte(b)}), want)
		}
	}
}

// TestJ3: what is encoded is decoded as it was, and nothing else is, near as it may be.
func TestJ3(t *testing.T) {
	r := rand.New(rand.NewSource(2))
	found := [2]int{}
	for range 3000 {
		l := sample.Events(r.Intn, 1+r.Intn(6))
		s, _ := column.Encode(l)
		expectEvents(t, s, l)
		for n := range len(s) {
			expectNoEvents(t, s[:n], api.ErrForm)
		}
		expectNoEvents(t, s+string([]byte{byte(r.Intn(256))}), api.ErrForm)
		other := []byte(s)
		other[r.Intn(len(s))] = byte(r.Intn(256))
		m, e := column.Decode(string(other))
		if e != api.OK {
			found[0]++
			continue
		}
		found[1]++
		if plain(m) != string(other) {
			t.Fatalf("Decode(%q): %v", other, m)
		}
	}
	if min(found[0], found[1]) < 500 {
		t.Errorf("%v", found)
	}
}

func TestJ3Traces(t *testing.T) {
	r := rand.New(rand.NewSource(3))
	for range 200 {
		c, _ := code.Compile(sample.Program(r.Intn))
		l, _, _ := vm.Run(c, []int{3, -1, 7}, api.MaxFuel)
		expectText(t, l, plain(l))
	}
}
