package tests

import (
	"reflect"
	"testing"
	"unsafe"
)

// textsIn returns the memory of each text in a value. Texts of one byte are left out, because those of the run-time system are shared by all.
func textsIn(v reflect.Value) []memory {
	var all []memory
	switch v.Kind() {
	case reflect.Interface:
		all = textsIn(v.Elem())
	case reflect.Struct:
		for i := range v.NumField() {
			all = append(all, textsIn(v.Field(i))...)
		}
	case reflect.Slice:
		for i := range v.Len() {
			all = append(all, textsIn(v.Index(i))...)
		}
	case reflect.String:
		if s := v.String(); len(s) > 1 {
			start := uintptr(unsafe.Pointer(unsafe.StringData(s)))
			all = append(all, memory{start, start + uintptr(len(s))})
		}
	}
	return all
}

// checkTextsApart checks that no text in the results is a part of one in an argument.
func checkTextsApart(t *testing.T, argument any, results ...any) {
	t.Helper()
	given := textsIn(reflect.ValueOf(argument))
	for i, result := range results {
		for _, a := range textsIn(reflect.ValueOf(result)) {
			for _, b := range given {
				if a.start < b.end && b.start < a.end {
					t.Errorf("a text of the result %d shares memory with the argument", i)
				}
			}
		}
	}
}
