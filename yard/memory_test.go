package yard_test

import (
	"fmt"
	"reflect"
	"slices"
)

func told(x any) string { return fmt.Sprintf("%+v", x) }

// same: the same content; empty lists and nil are alike.
func same[T any](a, b T) bool { return reflect.DeepEqual(copied(a, 0), copied(b, 0)) }

// copied is a copy of its own, each list with so much spare room; with none, empty ones are nil.
func copied[T any](x T, spare int) T {
	return copiedValue(reflect.ValueOf(&x).Elem(), spare).Interface().(T)
}

func copiedValue(v reflect.Value, spare int) reflect.Value {
	out := reflect.New(v.Type()).Elem()
	switch v.Kind() {
	case reflect.Slice:
		if v.Len()+spare > 0 {
			out.Set(reflect.MakeSlice(v.Type(), v.Len(), v.Len()+spare))
		}
		for i := range v.Len() {
			out.Index(i).Set(copiedValue(v.Index(i), spare))
		}
	case reflect.Struct:
		for i := range v.NumField() {
			out.Field(i).Set(copiedValue(v.Field(i), spare))
		}
	default:
		out.Set(v)
	}
	return out
}

// spans are the pieces of memory that lists of v have, spare room too.
func spans(v reflect.Value, out *[][2]uintptr) {
	switch v.Kind() {
	case reflect.Slice:
		if size := uintptr(v.Cap()) * v.Type().Elem().Size(); size > 0 {
			*out = append(*out, [2]uintptr{v.Pointer(), v.Pointer() + size})
		}
		for i := range v.Len() {
			spans(v.Index(i), out)
		}
	case reflect.Struct:
		for i := range v.NumField() {
			spans(v.Field(i), out)
		}
	}
}

// apart: no two lists of these share memory.
func apart(l ...any) bool {
	var all [][2]uintptr
	for _, x := range l {
		spans(reflect.ValueOf(x), &all)
	}
	slices.SortFunc(all, func(a, b [2]uintptr) int { return slices.Compare(a[:], b[:]) })
	for i := 1; i < len(all); i++ {
		if all[i][0] < all[i-1][1] {
			return false
		}
	}
	return true
}

// filled lays something else into the spare room of all lists.
func filled(v reflect.Value) {
	switch v.Kind() {
	case reflect.Slice:
		for i := range v.Len() {
			filled(v.Index(i))
		}
		room := v.Slice(0, v.Cap())
		for i := v.Len(); i < v.Cap() && v.Len() > 0; i++ {
			room.Index(i).Set(v.Index(0))
		}
	case reflect.Struct:
		for i := range v.NumField() {
			filled(v.Field(i))
		}
	}
}

// roomOf is what v holds with the spare room of all lists as part of them.
func roomOf(v reflect.Value) any {
	var l []any
	switch v.Kind() {
	case reflect.Slice:
		room := v.Slice(0, v.Cap())
		for i := range room.Len() {
			// What lies in spare room is the first of the list once more, with lists that were asked already.
			if i < v.Len() {
				l = append(l, roomOf(v.Index(i)))
			} else {
				l = append(l, room.Index(i).Interface())
			}
		}
	case reflect.Struct:
		for i := range v.NumField() {
			l = append(l, roomOf(v.Field(i)))
		}
	default:
		return v.Interface()
	}
	return l
}

// overwrite makes all of v zero, lists and their spare room element by element.
func overwrite(v reflect.Value) {
	switch v.Kind() {
	case reflect.Slice:
		room := v.Slice(0, v.Cap())
		for i := range room.Len() {
			if i < v.Len() {
				overwrite(room.Index(i))
			}
			room.Index(i).SetZero()
		}
	case reflect.Struct:
		for i := range v.NumField() {
			overwrite(v.Field(i))
		}
	}
}

// emptied makes lists that are nil empty ones.
func emptied(v reflect.Value) {
	switch v.Kind() {
	case reflect.Slice:
		if v.IsNil() {
			v.Set(reflect.MakeSlice(v.Type(), 0, 0))
		}
		for i := range v.Len() {
			emptied(v.Index(i))
		}
	case reflect.Struct:
		for i := range v.NumField() {
			emptied(v.Field(i))
		}
	}
}
