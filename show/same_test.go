package show_test

import (
	"math/rand"
	"reflect"
	"strings"
	"testing"

	"hindsight/api"
	"hindsight/sample"
	"hindsight/show"
)

// eachChange of a value: every number and text in it, every list longer and shorter, one at a time; path says which, and all is as it was behind it.
func eachChange(v reflect.Value, path string, changed func(path string)) {
	old := reflect.New(v.Type()).Elem()
	old.Set(v)
	switch v.Kind() {
	case reflect.Int:
		v.SetInt(v.Int() + 1)
		changed(path)
	case reflect.String:
		v.SetString(v.String() + "x")
		changed(path)
	case reflect.Struct:
		for i := range v.NumField() {
			eachChange(v.Field(i), path+"."+v.Type().Field(i).Name, changed)
		}
		return
	case reflect.Slice:
		n := v.Len()
		v.Set(reflect.Append(old.Slice3(0, n, n), reflect.Zero(v.Type().Elem())))
		changed(path + " longer")
		if n > 0 {
			v.Set(old.Slice(0, n-1))
			changed(path + " without the last one")
			v.Set(old.Slice(1, n))
			changed(path + " without the first one")
		}
		v.Set(old)
		for i := range n {
			eachChange(v.Index(i), path, changed)
		}
	}
	v.Set(old)
}

// TestC2EachField: a tree is not the same any more, whatever of it is changed, but for At.
func TestC2EachField(t *testing.T) {
	for seed := range int64(60) {
		one, two := sample.Tree(rand.New(rand.NewSource(seed)).Intn), sample.Tree(rand.New(rand.NewSource(seed)).Intn)
		n := 0
		eachChange(reflect.ValueOf(&one).Elem(), "", func(path string) {
			n++
			want := strings.HasSuffix(path, ".At")
			if show.Same(one, two) != want || show.Same(two, one) != want {
				t.Fatalf("%s: the same %v; want %v", path, !want, want)
			}
		})
		if n < 10 || !show.Same(one, two) {
			t.Fatalf("behind %d changes not the same: %v, %v", n, one, two)
		}
	}
}

// TestC2EmptyLists: it is the same whether a list without elements is nil.
func TestC2EmptyLists(t *testing.T) {
	empty := api.TreeExpr{Args: []api.TreeExpr{}}
	full := []api.TreeCmd{{Index: empty, Expr: empty, Args: []api.TreeExpr{}, Then: []api.TreeCmd{}, Else: []api.TreeCmd{}}}
	for _, c := range []struct{ t, u api.Tree }{
		{api.Tree{}, api.Tree{Funcs: []api.TreeFunc{}}},
		{api.Tree{Funcs: make([]api.TreeFunc, 1)}, api.Tree{Funcs: []api.TreeFunc{{Params: []string{}, Vars: []api.TreeVar{}, Cmds: []api.TreeCmd{}, Result: empty}}}},
		{api.Tree{Funcs: []api.TreeFunc{{Cmds: make([]api.TreeCmd, 1)}}}, api.Tree{Funcs: []api.TreeFunc{{Cmds: full}}}},
	} {
		if !show.Same(c.t, c.u) || !show.Same(c.u, c.t) {
			t.Errorf("not the same: %v %v", c.t, c.u)
		}
	}
}

// TestC2P1DeepTrees: also of trees that are none of a text, as deep as they may be.
func TestC2P1DeepTrees(t *testing.T) {
	deep := func(n int, innermost string) api.Tree {
		e, c := api.TreeExpr{Name: innermost}, api.TreeCmd{Other: innermost}
		for range n {
			e = api.TreeExpr{Args: []api.TreeExpr{{}, e}}
			c = api.TreeCmd{Then: []api.TreeCmd{{}}, Else: []api.TreeCmd{c}}
		}
		return api.Tree{Funcs: []api.TreeFunc{{Cmds: []api.TreeCmd{c}, Result: e}}}
	}
	const n = 1<<16 - 2
	if !show.Same(deep(n, "x"), deep(n, "x")) {
		t.Errorf("not the same")
	}
	if show.Same(deep(n, "x"), deep(n, "y")) || show.Same(deep(n, "x"), deep(n-1, "x")) {
		t.Errorf("the same")
	}
}
