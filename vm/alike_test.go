package vm_test

import (
	"math/rand"
	"slices"
	"testing"

	"hindsight/api"
	"hindsight/code"
	"hindsight/sample"
	"hindsight/scope"
	"hindsight/trace"
	"hindsight/vm"
)

// expectAlike: what is compiled runs as the program.
func expectAlike(t *testing.T, p api.Program, in []int, fuel int) {
	t.Helper()
	c, _ := code.Compile(p)
	l, ok, e := vm.Run(c, in, fuel)
	want, why := trace.Run(p, in, fuel)
	if e != why || ok != (why == api.OK) || !slices.Equal(l, want) {
		t.Fatalf("%v with %v and %d: %v %d\n%v, not %d\n%v", p, in, fuel, ok, e, l, why, want)
	}
}

func TestG2Texts(t *testing.T) {
	for _, s := range []string{
		"main {}",
		"func twice(n) { return (n + n); } main { var x; arr a 2; x = read; a[1] = (x * 3); x = twice(a[1]); print x; }",
		"func fac(n) { var r; r = 1; if (1 < n) { r = fac((n - 1)); r = (r * n); } return r; } main { var x; x = fac(5); print x; x = fac(9); print x; }",
		"main { arr a 4; var i; while (i < 4) { a[i] = (i * i); i = (i + 1); } while (0 < i) { i = (i - 1); print a[i]; } }",
		"main { var x; var y; x = read; y = read; print (x / y); print (x % y); }",
		"main { var x; while 1 { x = read; if x { print x; } else { x = (x - 1); } } }",
		"func f(a, b, c) { arr t 3; t[a] = (b - c); return t[(a + 1)]; } main { var x; while (x < 9) { x = f(x, 8, 3); x = f(x, x, x); x = (x + 1); } }",
	} {
		p, _, e := scope.Program(s)
		if e != api.OK {
			t.Fatalf("%s: %d", s, e)
		}
		for _, in := range [][]int{nil, {7, 2, 0, 5}, {api.Least, -1}, {api.Most + 1}, make([]int, api.MaxInput+1)} {
			for fuel := -1; fuel <= 40; fuel++ {
				expectAlike(t, p, in, fuel)
			}
			expectAlike(t, p, in, api.MaxFuel)
			expectAlike(t, p, in, api.MaxFuel+1)
		}
	}
}

func TestG2Programs(t *testing.T) {
	r := rand.New(rand.NewSource(1))
	for range 1000 {
		p := sample.Program(r.Intn)
		in := []int{r.Intn(3), r.Intn(9) - 4, api.Most, api.Least}[:r.Intn(5)]
		for fuel := range 15 {
			expectAlike(t, p, in, fuel)
		}
		expectAlike(t, p, in, api.MaxFuel)
	}
}

// anyInstr: one that passes Check, in code of so many instructions and functions.
func anyInstr(r *rand.Rand, instrs, functions int) api.Instr {
	i := api.Instr{Kind: api.CodeStep + r.Intn(api.CodeHalt)}
	switch i.Kind {
	case api.CodeStep, api.CodeConst, api.CodeLoad, api.CodeCell, api.CodeStore, api.CodePut, api.CodeRead:
		i.A = r.Intn(4)
	case api.CodeOp:
		i.A = api.ExprAdd + r.Intn(api.ExprSame-api.ExprAdd+1)
	case api.CodeGoto, api.CodeZero:
		i.A = r.Intn(instrs)
	case api.CodeCall:
		i.A, i.B = r.Intn(functions), r.Intn(api.MaxParams+1)
	}
	return i
}

// anyCode: some of it does something, most goes astray soon.
func anyCode(r *rand.Rand) api.Code {
	var c api.Code
	size := 4 + r.Intn(20)
	for range 1 + r.Intn(3) {
		c.First = append(c.First, r.Intn(size))
		c.Sizes = append(c.Sizes, []int{0, 0, 3 * r.Intn(2), 2}[:r.Intn(5)])
	}
	for range size {
		i := anyInstr(r, size, len(c.First))
		if r.Intn(3) == 0 {
			i = number(r.Intn(4) - 1)
		}
		c.Instrs = append(c.Instrs, i)
	}
	return c
}

// spoilt code of a program: a few instructions are others.
func spoilt(r *rand.Rand) api.Code {
	c, _ := code.Compile(sample.Program(r.Intn))
	for range r.Intn(3) {
		c.Instrs[r.Intn(len(c.Instrs))] = anyInstr(r, len(c.Instrs), len(c.First))
	}
	return c
}

// TestG1Any: whatever code does, it is what a plain machine does.
func TestG1Any(t *testing.T) {
	r := rand.New(rand.NewSource(2))
	ends, strays := map[int]int{}, map[astray]int{}
	for range 60000 {
		c := anyCode(r)
		if r.Intn(2) == 0 {
			c = spoilt(r)
		}
		in, fuel := []int{1, 0, 2, -1}[:r.Intn(5)], r.Intn(30)
		want, wrong := runs(c, in, fuel)
		l, ok, e := vm.Run(c, in, fuel)
		if e != api.OK || ok != (wrong == "") || !slices.Equal(l, want) {
			t.Fatalf("%v with %v and %d: %v %d\n%v, not %q\n%v", c, in, fuel, ok, e, l, wrong, want)
		}
		strays[wrong]++
		if ok {
			ends[l[len(l)-1].Value]++
		}
	}
	for how := api.EndDone; how <= api.EndDeep; how++ {
		if ends[how] < 50 {
			t.Errorf("%d end with %d", ends[how], how)
		}
	}
	if len(strays) < 10 {
		t.Errorf("only these: %v", strays)
	}
}
