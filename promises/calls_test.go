package promises_test

import (
	"math/rand"
	"reflect"
	"testing"

	"hindsight/api"
	"hindsight/code"
	"hindsight/column"
	"hindsight/disk"
	"hindsight/index"
	"hindsight/log"
	"hindsight/query"
	"hindsight/sample"
	"hindsight/scope"
	"hindsight/session"
	"hindsight/show"
	"hindsight/state"
	"hindsight/token"
	"hindsight/trace"
	"hindsight/tree"
	"hindsight/vm"
	"hindsight/when"
)

// spoilt: some of the numbers and texts of a value changed, so that it may be wrong.
func spoilt(r *rand.Rand, v reflect.Value) {
	switch v.Kind() {
	case reflect.Struct:
		for i := range v.NumField() {
			spoilt(r, v.Field(i))
		}
	case reflect.Slice:
		if v.Len() > 0 && r.Intn(50) == 0 {
			v.Set(v.Slice(0, v.Len()-1))
		}
		for i := range v.Len() {
			spoilt(r, v.Index(i))
		}
	case reflect.Int:
		if r.Intn(60) == 0 {
			v.SetInt(int64(r.Intn(14) - 2))
		}
	case reflect.String:
		if r.Intn(60) == 0 {
			v.SetString([]string{"", "x", "if", "a"}[r.Intn(4)])
		}
	}
}

// orSpoilt: a value, or one like it that may be wrong.
func orSpoilt[T any](r *rand.Rand, x T) T {
	if r.Intn(2) == 0 {
		return x
	}
	v := copied(reflect.ValueOf(x))
	spoilt(r, v)
	return v.Interface().(T)
}

func TestP1P2P3Tokens(t *testing.T) {
	r := rand.New(rand.NewSource(1))
	for range 100 {
		s, _ := show.Show(sample.Tree(r.Intn))
		l, _, _ := token.Scan(s)
		tell(t, "Scan", token.Scan, s)
		tell(t, "Join", token.Join, orSpoilt(r, l))
	}
}

func TestP1P2P3Trees(t *testing.T) {
	r := rand.New(rand.NewSource(2))
	for range 150 {
		u := sample.Tree(r.Intn)
		s, _ := show.Show(u)
		tell(t, "tree.Parse", tree.Parse, s)
		tell(t, "tree.Check", tree.Check, orSpoilt(r, u))
		tell(t, "Show", show.Show, orSpoilt(r, u))
		tell(t, "Same", show.Same, u, orSpoilt(r, u))
		tell(t, "Resolve", scope.Resolve, orSpoilt(r, u))
	}
}

func TestP1P2P3Names(t *testing.T) {
	r := rand.New(rand.NewSource(3))
	for range 150 {
		tell(t, "scope.Check", scope.Check, orSpoilt(r, sample.Program(r.Intn)))
	}
	for _, s := range []string{
		"", "main {", "main { x = 1; }", "main { arr a 9; }",
		"func f(a, b) { arr t 3; var u; t[a] = b; if u { u = f(a, (b - 1)); } else { print u; } return t[(a + 1)]; } main { var x; x = f(0, 7); while x { x = read; } }",
	} {
		tell(t, "Program", scope.Program, s)
		u, _, _ := tree.Parse(s)
		tell(t, "Resolve", scope.Resolve, u)
	}
}

func TestP1P2P3Traces(t *testing.T) {
	r := rand.New(rand.NewSource(5))
	vars := [][]int{{5}, {-3}, {1, 2, 3}, nil}
	e := api.Expr{Kind: api.ExprMul, Args: []api.Expr{{Kind: api.ExprCell, N: 2, Args: []api.Expr{{Kind: api.ExprNumber, N: 1}}}, {Kind: api.ExprName}}}
	for range 300 {
		tell(t, "Eval", trace.Eval, orSpoilt(r, e), orSpoilt(r, vars))
	}
	for range 100 {
		p, in := sample.Program(r.Intn), []int{3, 0, -1, 2}[:r.Intn(5)]
		l, _ := trace.Run(p, in, 12)
		tell(t, "trace.Run", trace.Run, orSpoilt(r, p), in, 12)
		tell(t, "Right", trace.Right, p, orSpoilt(r, l))
	}
	tell(t, "trace.Run", trace.Run, api.Program{}, []int{api.Most + 1}, -1)
}

func TestP1P2P3Code(t *testing.T) {
	r := rand.New(rand.NewSource(6))
	for range 150 {
		p := sample.Program(r.Intn)
		c, _ := code.Compile(p)
		tell(t, "Compile", code.Compile, orSpoilt(r, p))
		tell(t, "code.Check", code.Check, orSpoilt(r, c))
	}
}

func TestP1P2P3Machines(t *testing.T) {
	r := rand.New(rand.NewSource(7))
	found := [2]int{}
	for range 300 {
		c, _ := code.Compile(sample.Program(r.Intn))
		c, in := orSpoilt(r, c), []int{3, 0, -1, 2}[:r.Intn(5)]
		tell(t, "vm.Run", vm.Run, c, in, 12)
		if _, ok, _ := vm.Run(c, in, 12); ok {
			found[0]++
		} else {
			found[1]++
		}
	}
	if min(found[0], found[1]) < 30 {
		t.Errorf("%v", found)
	}
	tell(t, "vm.Run", vm.Run, api.Code{}, []int{api.Most + 1}, -1)
}

func TestP1P2P3Disks(t *testing.T) {
	r := rand.New(rand.NewSource(8))
	d, _ := disk.New(3)
	s := string(make([]byte, api.SectorSize-1))
	for i := range 100 {
		tell(t, "disk.New", disk.New, i-5)
		n, letter := r.Intn(4), string([]byte{byte(i)})
		x := orSpoilt(r, d)
		tell(t, "disk.Check", disk.Check, x)
		tell(t, "disk.Read", disk.Read, x, n)
		tell(t, "disk.Write", disk.Write, x, n, s+letter)
		tell(t, "disk.Flush", disk.Flush, x)
		tell(t, "disk.Crash", disk.Crash, x, []bool{true, false, n == 0, true}[:r.Intn(5)])
		if y, e := disk.Write(d, n, s+letter); e == api.OK {
			d = y
		}
		if r.Intn(20) == 0 {
			d, _ = disk.Flush(d)
		}
	}
}

func TestP1P2P3Batches(t *testing.T) {
	r := rand.New(rand.NewSource(9))
	d, _ := log.Format(40)
	for i := range 100 {
		tell(t, "log.Format", log.Format, i-5)
		l := sample.Events(r.Intn, r.Intn(5))
		x := orSpoilt(r, d)
		tell(t, "log.Append", log.Append, x, orSpoilt(r, l))
		tell(t, "log.Open", log.Open, x)
		then, way, e := log.Append(d, l)
		if e != api.OK {
			then, _ = log.Format(40)
			way = []api.Disk{then}
		}
		d = way[r.Intn(len(way))]
	}
	tell(t, "log.Append", log.Append, d, []api.Event{{Kind: api.Most + 1}})
	tell(t, "log.Append", log.Append, d, make([]api.Event, api.MaxBatch+1))
}

func TestP1P2P3Columns(t *testing.T) {
	r := rand.New(rand.NewSource(10))
	for range 200 {
		l := orSpoilt(r, sample.Events(r.Intn, r.Intn(5)))
		s, _ := column.Encode(l)
		tell(t, "Encode", column.Encode, l)
		tell(t, "Decode", column.Decode, s)
		tell(t, "Decode", column.Decode, s[:r.Intn(len(s))])
	}
	tell(t, "Encode", column.Encode, []api.Event{{Kind: api.Most + 1}})
}

func TestP1P2P3LookingUp(t *testing.T) {
	r := rand.New(rand.NewSource(11))
	for range 200 {
		l, _ := trace.Run(sample.Program(r.Intn), []int{3, 0, -1, 2}, 12)
		l = orSpoilt(r, l)
		kind, n, from, to := r.Intn(api.EventEnd+2), r.Intn(5)-1, r.Intn(20)-5, r.Intn(40)-5
		tell(t, "Find", index.Find, l, kind, n, from, to)
		tell(t, "Last", index.Last, l, kind, n, to)
		tell(t, "Count", index.Count, l, kind, n)
	}
	tell(t, "Find", index.Find, make([]api.Event, api.MaxTrace+1), 0, 0, 0, 0)
}

func TestP1P2P3States(t *testing.T) {
	const s = "func f(n) { var r; arr a 2; a[1] = n; if n { r = f((n - 1)); } return r; } main { arr b 3; var x; x = read; b[2] = x; x = f(x); x = f(0); print x; }"
	r := rand.New(rand.NewSource(12))
	for range 150 {
		p := sample.Program(r.Intn)
		if r.Intn(3) == 0 {
			p, _, _ = scope.Program(s)
		}
		l, _ := trace.Run(p, []int{3, 0, -1, 2}, r.Intn(30))
		l = orSpoilt(r, l[:len(l)-r.Intn(2)*r.Intn(len(l))])
		p = orSpoilt(r, p)
		tell(t, "At", state.At, p, l, r.Intn(len(l)+3)-1)
		tell(t, "At", state.At, p, l, len(l))
		tell(t, "History", state.History, p, l, r.Intn(4)-1, r.Intn(4)-1)
		tell(t, "History", state.History, p, l, 0, 0)
		tell(t, "Calls", state.Calls, p, l)
	}
}

func TestP1P2P3Queries(t *testing.T) {
	r := rand.New(rand.NewSource(13))
	for range 300 {
		q := sample.Ask(r.Intn)
		s, _ := query.Print(q)
		tell(t, "query.Parse", query.Parse, s)
		tell(t, "query.Parse", query.Parse, s[:r.Intn(len(s))])
		q = orSpoilt(r, q)
		l, _ := trace.Run(sample.Program(r.Intn), []int{3, 0, -1, 2}, r.Intn(12))
		tell(t, "query.Check", query.Check, q)
		tell(t, "query.Print", query.Print, q)
		tell(t, "Holds", query.Holds, q, orSpoilt(r, l))
	}
	tell(t, "Holds", query.Holds, api.Ask{Kind: api.AskPrint}, make([]api.Event, api.MaxTrace+1))
}

func TestP1P2P3When(t *testing.T) {
	r := rand.New(rand.NewSource(14))
	for range 300 {
		q := orSpoilt(r, sample.Ask(r.Intn))
		l, _ := trace.Run(sample.Program(r.Intn), []int{3, 0, -1, 2}, r.Intn(12))
		l = orSpoilt(r, l)
		tell(t, "Times", when.Times, q, l, r.Intn(20)-5, r.Intn(40)-5)
		tell(t, "First", when.First, q, l)
		tell(t, "Spans", when.Spans, q, l)
	}
	tell(t, "Spans", when.Spans, api.Ask{Kind: api.AskPrint}, make([]api.Event, api.MaxTrace+1))
}

// cut: a text, or its beginning.
func cut(r *rand.Rand, s string) string {
	if r.Intn(4) > 0 {
		return s
	}
	return s[:r.Intn(len(s))]
}

func TestP1P2P3Sessions(t *testing.T) {
	r := rand.New(rand.NewSource(15))
	d, _ := log.Format(30)
	for range 200 {
		s, in := cut(r, sample.Text(r.Intn)), []int{3, 0, -1, 2}[:r.Intn(5)]
		ask, _ := query.Print(sample.Ask(r.Intn))
		x := orSpoilt(r, d)
		fuel, batch := r.Intn(12), r.Intn(10)
		tell(t, "Record", session.Record, x, s, in, fuel, batch)
		tell(t, "Reopen", session.Reopen, x)
		tell(t, "Answer", session.Answer, x, s, cut(r, ask))
		then, n, _ := session.Record(d, s, in, fuel, batch)
		tell(t, "Answer", session.Answer, then, s, ask)
		if n > 0 {
			d = then
		}
		if n == 0 || r.Intn(3) == 0 {
			d, _ = log.Format(4 + r.Intn(30))
			d, _ = disk.Write(d, r.Intn(4), d.Kept[0])
		}
	}
	tell(t, "Record", session.Record, d, "main {}", []int{api.Most + 1}, -1, 1)
}

// anyOf some texts: wrong ones, too.
func anyOf(r *rand.Rand, l ...string) string { return l[r.Intn(len(l))] }

// TestP1Session: with an error there is nothing beside it, but for a disk without room.
func TestP1Session(t *testing.T) {
	r := rand.New(rand.NewSource(16))
	found := map[api.Errno]int{}
	for range 2000 {
		d, _ := log.Format(4 + r.Intn(12))
		d = orSpoilt(r, d)
		if r.Intn(20) == 0 {
			d.Kept[0] = d.Kept[len(d.Kept)-1]
		}
		s := anyOf(r, cut(r, sample.Text(r.Intn)), "main {}", "main { while 1 {} }", "main { x = 1; }")
		in, fuel, batch := make([]int, r.Intn(api.MaxInput+4)), r.Intn(api.MaxFuel+20)-10, r.Intn(api.MaxBatch+10)-4
		x, n, e := session.Record(d, s, in, fuel, batch)
		found[e]++
		if hasDisk := len(x.Kept) > 0; hasDisk != (e == api.OK || e == api.ErrSpace) || !hasDisk && n+len(x.Written) > 0 || e == api.OK && n == 0 {
			t.Fatalf("Record of %q: %v %d %d", s, x, n, e)
		}
		l, e := session.Reopen(d)
		if e != api.OK && len(l) > 0 {
			t.Fatalf("Reopen(%v): %v %d", d, l, e)
		}
		if text, f := session.Answer(d, s, anyOf(r, "print", "", "all step any", "\xff")); f != e || e != api.OK && text != "" {
			t.Fatalf("Answer of %q: %q %d, not %d", s, text, f, e)
		}
	}
	for _, e := range []api.Errno{api.OK, api.ErrForm, api.ErrMany, api.ErrRange, api.ErrState, api.ErrNone, api.ErrSpace} {
		if found[e] < 10 {
			t.Errorf("%v", found)
		}
	}
}

// TestP1Whatever: calls end, and don't panic, whatever numbers there are.
func TestP1Whatever(t *testing.T) {
	r := rand.New(rand.NewSource(4))
	for range 5000 {
		p, u := sample.Program(r.Intn), sample.Tree(r.Intn)
		spoilt(r, reflect.ValueOf(&p).Elem())
		spoilt(r, reflect.ValueOf(&u).Elem())
		e := scope.Check(p)
		if l, f := trace.Run(p, []int{1}, 30); f != e || (f == api.OK) != (len(l) > 0) {
			t.Fatalf("Run(%v): %v %d", p, l, f)
		}
		if c, f := code.Compile(p); f != e || f != api.OK && len(c.First) > 0 {
			t.Fatalf("Compile(%v): %v %d", p, c, f)
		}
		if _, f := trace.Right(p, make([]api.Event, 1)); f != e {
			t.Fatalf("Right(%v): %d", p, f)
		}
		if l, f := state.Calls(p, nil); f != e || (f == api.OK) != (len(l) > 0) {
			t.Fatalf("Calls(%v): %v %d", p, l, f)
		}
		if l, f := state.At(p, nil, 0); f != e || (f == api.OK) != (len(l) > 0) {
			t.Fatalf("At(%v): %v %d", p, l, f)
		}
		if _, e := show.Show(u); e != tree.Check(u) {
			t.Fatalf("Show(%v): %d", u, e)
		}
		a := sample.Ask(r.Intn)
		spoilt(r, reflect.ValueOf(&a).Elem())
		e = query.Check(a)
		if h, f := query.Holds(a, make([]api.Event, 1)); f != e || (f == api.OK) != (len(h) == 1) {
			t.Fatalf("Holds(%v): %v %d", a, h, f)
		}
		if _, ok, f := when.First(a, nil); f != e || ok {
			t.Fatalf("First(%v): %v %d", a, ok, f)
		}
		q, at, e := scope.Resolve(u)
		if e != api.OK && len(q.Funcs) > 0 || e == api.OK && (at != 0 || scope.Check(q) != api.OK) {
			t.Fatalf("Resolve(%v): %v %d %d", u, q, at, e)
		}
	}
}
