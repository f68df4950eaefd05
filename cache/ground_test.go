package cache

import (
	"fmt"
	"math"
	"reflect"
	"testing"

	"pointsman/api"
)

// parts are all that a ground is told of.
type parts struct {
	P api.Program
	C api.Code
	T []api.Rows
}

func (x parts) asked() *asked {
	return &asked{program: x.P, code: x.C, world: api.World{Tables: x.T}}
}

func (x parts) is(y parts) bool { return groundOf(x.asked()).is(y.asked()) }

// fill lays two parts into each list, so deep; none is what another one is.
func fill(v reflect.Value, deep int, n *int) {
	*n++
	switch v.Kind() {
	case reflect.Slice:
		if deep > 0 {
			v.Set(reflect.MakeSlice(v.Type(), 2, 2))
			fill(v.Index(0), deep-1, n)
			fill(v.Index(1), deep-1, n)
		}
	case reflect.Struct:
		for i := range v.NumField() {
			fill(v.Field(i), deep, n)
		}
	case reflect.String:
		v.SetString(fmt.Sprint("x", *n))
	case reflect.Int:
		v.SetInt(int64(*n))
	case reflect.Uint64:
		v.SetUint(uint64(*n))
	case reflect.Uint8:
		v.SetUint(uint64(*n % 100))
	}
}

func full() parts {
	var x parts
	n := 0
	fill(reflect.ValueOf(&x).Elem(), 4, &n)
	return x
}

// leaves goes through all numbers, texts and lists of v.
func leaves(v reflect.Value, path string, at func(v reflect.Value, path string)) {
	switch v.Kind() {
	case reflect.Struct:
		for i := range v.NumField() {
			leaves(v.Field(i), path+"."+v.Type().Field(i).Name, at)
		}
		return
	case reflect.Slice:
		for i := range v.Len() {
			leaves(v.Index(i), fmt.Sprint(path, "[", i, "]"), at)
		}
	}
	at(v, path)
}

// others are values that a leaf could have instead.
func others(v reflect.Value) []reflect.Value {
	var l []reflect.Value
	add := func(x any) { l = append(l, reflect.ValueOf(x).Convert(v.Type())) }
	switch v.Kind() {
	case reflect.Slice:
		l = append(l, v.Slice3(0, max(v.Len()-1, 0), max(v.Len()-1, 0)), reflect.AppendSlice(v.Slice3(0, v.Len(), v.Len()), reflect.MakeSlice(v.Type(), 1, 1)))
	case reflect.String:
		add(v.String() + "x")
		add("")
		add(v.String()[1:])
		add(string(make([]byte, 300)))
	case reflect.Int:
		for _, n := range []int64{v.Int() + 1, v.Int() + 128, v.Int() + 1<<62, -v.Int(), math.MinInt64, math.MaxInt64} {
			add(n)
		}
	case reflect.Uint64:
		for _, n := range []uint64{v.Uint() + 1, v.Uint() + 128, v.Uint() + 1<<62, math.MaxUint64} {
			add(n)
		}
	case reflect.Uint8:
		add(uint8(v.Uint() + 1))
		add(uint8(v.Uint() + 128))
	}
	return l
}

// TestGround: a ground is the same as long as nothing of it is another: no number, no text, no list's length.
func TestGround(t *testing.T) { // P18.2
	kept, other := full(), full()
	g := groundOf(kept.asked())
	if !g.is(other.asked()) {
		t.Fatal("not the same as itself")
	}
	n := 0
	leaves(reflect.ValueOf(&other).Elem(), "", func(v reflect.Value, path string) {
		was := reflect.New(v.Type()).Elem()
		was.Set(v)
		for _, x := range others(was) {
			v.Set(x)
			if !reflect.DeepEqual(x.Interface(), was.Interface()) && (g.is(other.asked()) || n%37 == 0 && other.is(kept)) {
				t.Errorf("%s makes no difference: %v, %v", path, was, x)
			}
			n++
		}
		v.Set(was)
	})
	if n < 9000 || !g.is(other.asked()) {
		t.Errorf("only %d others", n)
	}
}

// TestNumbersApart: no two lists of numbers are told alike, though each number has as many bytes as it needs.
func TestNumbersApart(t *testing.T) { // P18.2
	numbers := []int{0, 1, 2, 3, 5, 127, 128, 129, 255, 256, 640, 1<<14 - 1, 1 << 14, 1<<14 + 1, -1, math.MinInt, math.MaxInt}
	lists := [][]int{nil}
	for _, a := range numbers {
		lists = append(lists, []int{a})
		for _, b := range numbers {
			lists = append(lists, []int{a, b})
			for _, c := range numbers {
				lists = append(lists, []int{a, b, c})
			}
		}
	}
	seen := map[string]int{}
	for _, l := range lists {
		seen[string(groundOf(parts{C: api.Code{Slots: l}}.asked()).told)]++
	}
	if len(seen) != len(lists) {
		t.Errorf("%d lists, and %d of them apart", len(lists), len(seen))
	}
}

// TestListsApart: where a list or a text ends makes a difference.
func TestListsApart(t *testing.T) { // P18.2
	heads := func(l ...[]int) parts {
		var x parts
		for _, s := range l {
			x.C.Heads = append(x.C.Heads, api.Head{Slots: s})
		}
		return x
	}
	emits := func(l ...string) parts { return parts{P: api.Program{{Emits: l}}} }
	bodies := func(body, other []api.Stmt) parts {
		return parts{P: api.Program{{Body: []api.Stmt{{Body: body, Else: other}}}}}
	}
	for i, l := range [][]parts{
		{heads(), heads(nil), heads(nil, nil), heads([]int{0}), heads([]int{1, 2}, []int{3}), heads([]int{1}, []int{2, 3}), heads([]int{1, 2, 3}, nil), heads(nil, []int{1, 2, 3}), heads([]int{1, 2, 3})},
		{emits(), emits(""), emits("", ""), emits("\x00"), emits("ab", "c"), emits("a", "bc"), emits("abc"), emits("abc", ""), emits("", "abc"), emits("b", "ac")},
		{bodies(nil, nil), bodies(make([]api.Stmt, 1), nil), bodies(nil, make([]api.Stmt, 1)), bodies(make([]api.Stmt, 1), make([]api.Stmt, 1)), bodies(make([]api.Stmt, 2), nil), bodies(nil, make([]api.Stmt, 2))},
		{{}, {P: make(api.Program, 1)}, {T: make([]api.Rows, 1)}, {C: api.Code{Main: make([]api.Ins, 1)}}, {C: api.Code{Acts: []api.Act{{Code: make([]api.Ins, 1)}}}}},
	} {
		for n, x := range l {
			for m, y := range l {
				if x.is(y) != (n == m) {
					t.Errorf("%d: %d and %d: %+v, %+v", i, n, m, x, y)
				}
			}
		}
	}
}

// TestGroundOfNothing: empty lists are as none.
func TestGroundOfNothing(t *testing.T) { // P18.2, R4
	if !(parts{}).is(parts{P: api.Program{}, T: []api.Rows{}}) || (parts{}).is(parts{P: make(api.Program, 1)}) || (parts{P: make(api.Program, 1)}).is(parts{}) {
		t.Error("empty lists and none")
	}
	if (parts{T: make([]api.Rows, 2)}).is(parts{T: make([]api.Rows, 1)}) || (parts{T: make([]api.Rows, 1)}).is(parts{T: make([]api.Rows, 2)}) {
		t.Error("tables without anything")
	}
}

// TestBesideGround: what is no part of it makes no difference.
func TestBesideGround(t *testing.T) { // P18.2
	x := full().asked()
	g := groundOf(x)
	x.world.Now, x.world.Random, x.port, x.bytes = 5, 6, 7, []byte{8}
	x.world.Arrays, x.world.Groups = make([]api.Array, 3), make([]api.Group, 3)
	if !g.is(x) {
		t.Error("another ground")
	}
}

// TestEndlessProgram: a program that is a part of itself is another one than any that is kept.
func TestEndlessProgram(t *testing.T) { // R1
	body := []api.Stmt{{Kind: api.StIf}, {Kind: api.StIf}}
	body[0].Body, body[1].Else = body, body
	if (parts{P: api.Program{{Body: []api.Stmt{{Kind: api.StIf, Body: make([]api.Stmt, 2)}, {}}}}}).is(parts{P: api.Program{{Body: body}}}) {
		t.Error("the same")
	}
}
