package algebra_test

import (
	"cmp"
	"reflect"
	"slices"
	"testing"

	"jointer/api"
)

// R4: every check of this package gives lists with spare capacity, in which nothing may change, and looks at the memory of what is returned.

// roomy returns a copy in which each list that is not empty has memory of its own and spare capacity.
func roomy[T any](x T) T {
	return roomyValue(reflect.ValueOf(&x).Elem()).Interface().(T)
}

func roomyValue(v reflect.Value) reflect.Value {
	switch v.Kind() {
	case reflect.Slice:
		if v.Len() == 0 { // plans and expressions have so many of them
			return v
		}
		const spare = 1
		made := reflect.MakeSlice(v.Type(), v.Len()+spare, v.Len()+spare)
		for i := range v.Len() {
			made.Index(i).Set(roomyValue(v.Index(i)))
		}
		for i := range spare {
			fill(made.Index(v.Len() + i))
		}
		return made.Slice(0, v.Len())
	case reflect.Struct:
		made := reflect.New(v.Type()).Elem()
		for i := range v.NumField() {
			made.Field(i).Set(roomyValue(v.Field(i)))
		}
		return made
	}
	return v
}

// fill writes something into what stands in spare capacity. Lists in a list that it has made stay empty, since plans contain plans.
func fill(v reflect.Value) {
	switch v.Kind() {
	case reflect.Slice:
		v.Set(reflect.MakeSlice(v.Type(), 1, 1))
		if v.Type().Elem().Kind() != reflect.Struct {
			fill(v.Index(0))
		}
	case reflect.Struct:
		for i := range v.NumField() {
			fill(v.Field(i))
		}
	case reflect.Int, reflect.Int64:
		v.SetInt(77)
	case reflect.Uint8:
		v.SetUint(77)
	case reflect.Bool:
		v.SetBool(true)
	default:
		v.SetString("junk")
	}
}

// same returns whether two values are the same, where nil and empty lists are.
func same(a, b any) bool { return equal(reflect.ValueOf(a), reflect.ValueOf(b), false) }

// equal compares values, with all the memory of their lists if room holds.
func equal(a, b reflect.Value, room bool) bool {
	switch a.Kind() {
	case reflect.Slice:
		if a.Len() != b.Len() || room && a.Cap() != b.Cap() {
			return false
		}
		if room {
			a, b = a.Slice(0, a.Cap()), b.Slice(0, b.Cap())
		}
		for i := range a.Len() {
			if !equal(a.Index(i), b.Index(i), room) {
				return false
			}
		}
		return true
	case reflect.Struct:
		for i := range a.NumField() {
			if !equal(a.Field(i), b.Field(i), room) {
				return false
			}
		}
		return true
	}
	return a.Equal(b)
}

// span is the memory of a list.
type span struct{ from, to uintptr }

// spans returns the memory of all lists of a value, spare capacity included.
func spans(v reflect.Value) []span {
	var l []span
	switch v.Kind() {
	case reflect.Slice:
		if v.Cap() > 0 {
			l = append(l, span{v.Pointer(), v.Pointer() + uintptr(v.Cap())*v.Type().Elem().Size()})
		}
		for i := range v.Cap() {
			l = append(l, spans(v.Slice(0, v.Cap()).Index(i))...)
		}
	case reflect.Struct:
		for i := range v.NumField() {
			l = append(l, spans(v.Field(i))...)
		}
	}
	return l
}

// sharing returns whether some lists of values share memory.
func sharing(values ...any) bool {
	var l []span
	for _, v := range values {
		l = append(l, spans(reflect.ValueOf(v))...)
	}
	slices.SortFunc(l, func(a, b span) int { return cmp.Compare(a.from, b.from) })
	for i := 1; i < len(l); i++ {
		if l[i].from < l[i-1].to {
			return true
		}
	}
	return false
}

// checkMemory checks that arguments that roomy made of others are as they were, and that no memory is that of two lists of the arguments and results.
func checkMemory(t *testing.T, given, were []any, results ...any) {
	t.Helper()
	for i, x := range given {
		if !equal(reflect.ValueOf(x), roomyValue(reflect.ValueOf(were[i])), true) {
			t.Errorf("the argument %+v was changed: %+v", were[i], x)
		}
	}
	if sharing(append(slices.Clone(given), results...)...) {
		t.Errorf("%+v and %+v share memory", given, results)
	}
}

// TestMemory looks at these helpers: they would find what they look for.
func TestMemory(t *testing.T) {
	list := [][]int{{1, 2, 3}, {4}}
	made := roomy(list)
	if !same(made, list) || sharing(made, list) || sharing(made) || !same(made[:3][2], []int{77}) || !same(roomy([]api.Plan{{Table: 1}}), []api.Plan{{Table: 1, Kids: []api.Plan{}}}) {
		t.Errorf("a copy with room: %v", made)
	}
	if !sharing(list, list[1:2]) || !sharing([][]int{list[0][:1], list[0][2:]}, [][]int{list[0]}) || !sharing([][]int{list[0][:1], list[0][1:]}) || !sharing([]api.Plan{{Cols: made[0][:1]}}, [][]int{made[0][:0], made[0][1:]}) {
		t.Error("memory that is shared is not found")
	}
	for _, change := range []func(l [][]int){func(l [][]int) { l[0][1] = 7 }, func(l [][]int) { l[1] = append(l[1], 7) }, func(l [][]int) { l[1] = l[1][:1:1] }, func(l [][]int) { _ = append(l[0], 7) }, func(l [][]int) { _ = append(l, nil) }} {
		made := roomy(list)
		change(made)
		if equal(reflect.ValueOf(made), reflect.ValueOf(roomy(list)), true) {
			t.Errorf("a change is not found: %v", made)
		}
	}
}
