package promises_test

import (
	"math/rand"
	"reflect"
	"testing"

	"hindsight/api"
	"hindsight/sample"
	"hindsight/scope"
	"hindsight/show"
	"hindsight/token"
	"hindsight/tree"
)

// spoilt: some of the numbers and texts of a value changed, so that it may be wrong.
func spoilt(r *rand.Rand, v reflect.Value) {
	switch v.Kind() {
	case reflect.Struct:
		for i := range v.NumField() {
			spoilt(r, v.Field(i))
		}
	case reflect.Slice:
		if v.Len() > 0 && r.Intn(50) == 0 {
			v.Set(v.Slice(0, v.Len()-1))
		}
		for i := range v.Len() {
			spoilt(r, v.Index(i))
		}
	case reflect.Int:
		if r.Intn(60) == 0 {
			v.SetInt(int64(r.Intn(14) - 2))
		}
	case reflect.String:
		if r.Intn(60) == 0 {
			v.SetString([]string{"", "x", "if", "a"}[r.Intn(4)])
		}
	}
}

// orSpoilt: a value, or one that may be wrong.
func orSpoilt[T any](r *rand.Rand, x T) T {
	if r.Intn(2) == 0 {
		spoilt(r, reflect.ValueOf(&x).Elem())
	}
	return x
}

func TestP1P2P3Tokens(t *testing.T) {
	r := rand.New(rand.NewSource(1))
	for range 100 {
		s, _ := show.Show(sample.Tree(r.Intn))
		l, _, _ := token.Scan(s)
		tell(t, "Scan", token.Scan, s)
		tell(t, "Join", token.Join, orSpoilt(r, l))
	}
}

func TestP1P2P3Trees(t *testing.T) {
	r := rand.New(rand.NewSource(2))
	for range 150 {
		u := sample.Tree(r.Intn)
		s, _ := show.Show(u)
		tell(t, "tree.Parse", tree.Parse, s)
		tell(t, "tree.Check", tree.Check, orSpoilt(r, u))
		tell(t, "Show", show.Show, orSpoilt(r, u))
		tell(t, "Same", show.Same, u, orSpoilt(r, u))
		tell(t, "Resolve", scope.Resolve, orSpoilt(r, u))
	}
}

func TestP1P2P3Names(t *testing.T) {
	r := rand.New(rand.NewSource(3))
	for range 150 {
		tell(t, "scope.Check", scope.Check, orSpoilt(r, sample.Program(r.Intn)))
	}
	for _, s := range []string{
		"", "main {", "main { x = 1; }", "main { arr a 9; }",
		"func f(a, b) { arr t 3; var u; t[a] = b; if u { u = f(a, (b - 1)); } else { print u; } return t[(a + 1)]; } main { var x; x = f(0, 7); while x { x = read; } }",
	} {
		tell(t, "Program", scope.Program, s)
		u, _, _ := tree.Parse(s)
		tell(t, "Resolve", scope.Resolve, u)
	}
}

// TestP1Whatever: calls end, and don't panic, whatever numbers there are.
func TestP1Whatever(t *testing.T) {
	r := rand.New(rand.NewSource(4))
	for range 5000 {
		p, u := sample.Program(r.Intn), sample.Tree(r.Intn)
		spoilt(r, reflect.ValueOf(&p).Elem())
		spoilt(r, reflect.ValueOf(&u).Elem())
		scope.Check(p)
		if _, e := show.Show(u); e != tree.Check(u) {
			t.Fatalf("Show(%v): %d", u, e)
		}
		q, at, e := scope.Resolve(u)
		if e != api.OK && len(q.Funcs) > 0 || e == api.OK && (at != 0 || scope.Check(q) != api.OK) {
			t.Fatalf("Resolve(%v): %v %d %d", u, q, at, e)
		}
	}
}
