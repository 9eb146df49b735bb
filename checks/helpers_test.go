// Package checks holds the tests of all layers, by what their packages export alone.
package checks

import (
	"fmt"
	"math/rand/v2"
	"reflect"
	"testing"

	"usufruct/api"
)

// is: got prints as want does.
func is(t *testing.T, what string, got, want any) {
	t.Helper()
	if g, w := fmt.Sprint(got), fmt.Sprint(want); g != w {
		t.Errorf("%s: %s, not %s", what, g, w)
	}
}

// must: something holds.
func must(t *testing.T, what string, holds bool) {
	t.Helper()
	if !holds {
		t.Errorf("%s: does not hold", what)
	}
}

// equal: got is want in all its parts, but that a list without an element may be nil or empty.
func equal(t *testing.T, what string, got, want any) {
	t.Helper()
	if !reflect.DeepEqual(plainLists(reflect.ValueOf(got)), plainLists(reflect.ValueOf(want))) {
		t.Errorf("%s: %+v, not %+v", what, got, want)
	}
}

// plainLists: v in a form in which nil lists and empty ones are the same.
func plainLists(v reflect.Value) any {
	switch v.Kind() {
	case reflect.Slice, reflect.Array:
		l := []any{}
		for i := range v.Len() {
			l = append(l, plainLists(v.Index(i)))
		}
		return l
	case reflect.Struct:
		l := []any{}
		for i := range v.NumField() {
			l = append(l, plainLists(v.Field(i)))
		}
		return l
	case reflect.Invalid:
		return nil
	}
	return v.Interface()
}

// dice: numbers that look like chance, the same in each run.
func dice(seed uint64) *rand.Rand { return rand.New(rand.NewPCG(seed, 20)) }

// diag: a diag by its parts.
func diag(stage int, what api.Fault, line, col int) api.Diag {
	return api.Diag{Stage: stage, What: what, At: api.Pos{Line: line, Col: col}}
}

// pick: one of a list.
func pick[T any](r *rand.Rand, l []T) T { return l[r.IntN(len(l))] }

// panics: whether a call panics.
func panics(call func()) (did bool) {
	defer func() { did = recover() != nil }()
	call()
	return false
}
