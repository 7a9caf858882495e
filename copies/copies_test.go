package copies_test

import (
	"reflect"
	"testing"

	"quoin/api"
	"quoin/copies"
	"quoin/spec"
)

const text = `module M; use L (a as b, c); use K; mode in; token A = ("a" | [b-d]*) & !"c" push in; skip = " " pop; left A B; right C;
type T = C(text, T) | D; open inline rule r(x, y): T = x r(y, r(A, x)) prec A => N($1, M($2, "t"), _) | ; rule s = r(A, A); start s r;`

// spoil overwrites all that stands in a value.
func spoil(v reflect.Value) {
	switch v.Kind() {
	case reflect.Struct:
		for i := range v.NumField() {
			spoil(v.Field(i))
		}
	case reflect.Slice:
		for i := range v.Len() {
			spoil(v.Index(i))
		}
	default:
		v.SetZero()
	}
}

// A copy is the same, places too, and stays as it is, whatever becomes of what was copied.
func TestSpec(t *testing.T) {
	s, f := spec.Parse(text)
	want, _ := spec.Parse(text)
	if f != (api.Fault{}) {
		t.Fatal(f)
	}
	made, again := copies.Spec(s), copies.Spec(s)
	if !reflect.DeepEqual(made, want) {
		t.Error(made)
	}
	spoil(reflect.ValueOf(&s).Elem())
	spoil(reflect.ValueOf(&again).Elem())
	if !reflect.DeepEqual(made, want) || reflect.DeepEqual(s, want) {
		t.Error(made)
	}
	if !reflect.DeepEqual(copies.Spec(api.Spec{}), api.Spec{}) {
		t.Error("a copy of nothing is something")
	}
}

func TestEach(t *testing.T) {
	l := []int{1, 2, 3}
	if made := copies.Each(l[:2], func(n int) int { return 10 * n }); !reflect.DeepEqual(made, []int{10, 20}) || l[0] != 1 || l[2] != 3 {
		t.Error(made, l)
	}
	if made := copies.Each([]int{}, func(n int) int { return n }); made != nil {
		t.Error(made)
	}
}
