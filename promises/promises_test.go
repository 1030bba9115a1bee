// Package promises_test: what is promised of all chapters (P1 to P3), of each call.
package promises_test

import (
	"fmt"
	"reflect"
	"testing"
)

// tell of one call what must hold whatever it does: it only reads what it is handed, the spare room too; its answer is new memory, no two lists of it the same; and it is the same each time, whatever became of what was handed in and answered.
func tell(t *testing.T, what string, call any, in ...any) {
	t.Helper()
	args := copies(in)
	out := reflect.ValueOf(call).Call(args)
	for i, a := range args {
		if told(a) != told(copies(in)[i]) {
			t.Fatalf("%s: what came in was changed\n%s", what, told(a))
		}
	}
	rooms := []room{}
	for _, v := range append(args, out...) {
		rooms = append(rooms, roomsOf(v)...)
	}
	for i, a := range rooms {
		for _, b := range rooms[:i] {
			if a.from < b.to && b.from < a.to {
				t.Fatalf("%s: two lists share memory", what)
			}
		}
	}
	first := told(out...)
	for _, v := range args {
		scribble(v)
	}
	if told(out...) != first {
		t.Fatalf("%s: a change of what came in is seen in the answer", what)
	}
	for _, v := range out {
		scribble(v)
	}
	if again := told(reflect.ValueOf(call).Call(copies(in))...); again != first {
		t.Fatalf("%s: %s, and then %s", what, first, again)
	}
}

// copies of things, in memory of their own, each list with spare room behind it.
func copies(l []any) []reflect.Value {
	var m []reflect.Value
	for _, x := range l {
		m = append(m, copied(reflect.ValueOf(x)))
	}
	return m
}

func copied(v reflect.Value) reflect.Value {
	w := reflect.New(v.Type()).Elem()
	switch v.Kind() {
	case reflect.Struct:
		for i := range v.NumField() {
			w.Field(i).Set(copied(v.Field(i)))
		}
	case reflect.Slice:
		w.Set(reflect.MakeSlice(v.Type(), v.Len(), v.Len()+2))
		for i := range v.Len() {
			w.Index(i).Set(copied(v.Index(i)))
		}
	default:
		w.Set(v)
	}
	return w
}

// told: all that values have, the spare room of their lists too, as a text.
func told(l ...reflect.Value) string {
	s := ""
	for _, v := range l {
		switch v.Kind() {
		case reflect.Struct:
			for i := range v.NumField() {
				s += told(v.Field(i)) + ","
			}
			s = "{" + s + "}"
		case reflect.Slice:
			s += "["
			for i := range v.Cap() {
				if i == v.Len() {
					s += "|"
				}
				s += told(v.Slice(0, v.Cap()).Index(i)) + " "
			}
			s += "]"
		default:
			s += fmt.Sprintf("%#v", v.Interface())
		}
		s += " "
	}
	return s
}

// room that a list has in memory.
type room struct{ from, to uintptr }

func roomsOf(v reflect.Value) []room {
	var l []room
	switch v.Kind() {
	case reflect.Struct:
		for i := range v.NumField() {
			l = append(l, roomsOf(v.Field(i))...)
		}
	case reflect.Slice:
		if v.Cap() > 0 {
			l = append(l, room{v.Pointer(), v.Pointer() + uintptr(v.Cap())*v.Type().Elem().Size()})
		}
		for i := range v.Len() {
			l = append(l, roomsOf(v.Index(i))...)
		}
	}
	return l
}

// scribble over all that lists of a value have.
func scribble(v reflect.Value) {
	switch v.Kind() {
	case reflect.Struct:
		for i := range v.NumField() {
			scribble(v.Field(i))
		}
	case reflect.Slice:
		for i := range v.Len() {
			scribble(v.Index(i))
		}
		all := v.Slice(0, v.Cap())
		for i := range all.Len() {
			blot(all.Index(i))
		}
	}
}

// blot: something that was not there.
func blot(v reflect.Value) {
	switch v.Kind() {
	case reflect.Bool:
		v.SetBool(!v.Bool())
	case reflect.Int:
		v.SetInt(-987)
	case reflect.String:
		v.SetString("blot")
	case reflect.Array:
		blot(v.Index(0))
	case reflect.Struct:
		v.SetZero()
		blot(v.Field(0))
	default:
		v.SetZero()
	}
}
