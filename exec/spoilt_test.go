package exec_test

import (
	"math"
	"math/rand/v2"
	"reflect"
	"testing"

	"pointsman/api"
	"pointsman/code"
	"pointsman/lower"
	"pointsman/source"
)

// spoil changes one thing of v: what a list has, or what is in one of its parts.
func spoil(r *rand.Rand, v reflect.Value) {
	switch v.Kind() {
	case reflect.Struct:
		spoil(r, v.Field(r.IntN(v.NumField())))
	case reflect.Slice:
		if v.Len() == 0 || r.IntN(6) == 0 {
			spoilList(r, v)
		} else {
			spoil(r, v.Index(r.IntN(v.Len())))
		}
	case reflect.String:
		v.SetString(pick(r, []string{"", "f0", "f1", "t0", "r0", "h0", v.String() + "x"}))
	case reflect.Int:
		v.SetInt(pick(r, []int64{v.Int() - 1, v.Int() + 1, v.Int() + 1, r.Int64N(12), r.Int64N(40), -1, -2, 65536, math.MaxInt64, math.MinInt64}))
	case reflect.Uint64:
		v.SetUint(pick(r, []uint64{v.Uint() - 1, v.Uint() + 1, 0, 1, r.Uint64(), math.MaxUint64}))
	case reflect.Uint8:
		v.SetUint(uint64(pick(r, []int{r.IntN(24), r.IntN(24), r.IntN(256)})))
	}
}

func spoilList(r *rand.Rand, v reflect.Value) {
	one := reflect.New(v.Type().Elem()).Elem()
	if v.Len() == 0 {
		v.Set(reflect.Append(v, one))
		return
	}
	at := r.IntN(v.Len())
	switch r.IntN(3) {
	case 0:
		v.Set(reflect.AppendSlice(v.Slice(0, at), v.Slice(at+1, v.Len())))
	case 1:
		v.Set(reflect.Append(v, copiedValue(v.Index(at), 0)))
	default:
		other := r.IntN(v.Len())
		one.Set(v.Index(at))
		v.Index(at).Set(v.Index(other))
		v.Index(other).Set(one)
	}
}

// TestSpoiltCode: code of which some things are others is ErrForm, if it may not be; else it comes to some pass, or to ErrForm.
func TestSpoiltCode(t *testing.T) { // P16.1, R1, R2
	t.Parallel()
	r := dice(5)
	seen := map[string]int{}
	for n := range 600 {
		m := made(r, n%30, n%2 == 0)
		c, e := lower.Code(m.p)
		if e != api.OK {
			continue
		}
		w := m.world()
		for range 30 {
			other := copied(c, 0)
			for range 1 + r.IntN(3) {
				spoil(r, reflect.ValueOf(&other).Elem())
			}
			got := handed{m.p, other, w, r.IntN(65536), m.bytes()}.run()
			checkSome(t, got)
			switch {
			case code.Check(other) != api.OK && got.E != api.ErrForm:
				t.Fatalf("code that may not be: %.4000s", told(other))
			case code.Check(other) != api.OK:
				seen["may not be"]++
			case got.E == api.OK:
				seen["some pass"]++
			default:
				seen["of another program"]++
			}
		}
	}
	if seen["may not be"] < 3000 || seen["some pass"] < 1000 || seen["of another program"] < 100 {
		t.Errorf("the sample says too little: %v", seen)
	}
}

// TestSpoiltWorlds: a world of which one thing is another has the error that the pass by the tree has.
func TestSpoiltWorlds(t *testing.T) { // P16.1, R1
	t.Parallel()
	r := dice(6)
	seen := map[api.Errno]int{}
	for n := range 400 {
		m := made(r, n%20, false)
		c, e := lower.Code(m.p)
		if e != api.OK {
			continue
		}
		for range 15 {
			h := handed{m.p, c, copied(m.world(), 0), r.IntN(65536), m.bytes()}
			spoil(r, reflect.ValueOf(&h.W).Elem())
			_, _, want := source.Run(h.P, h.W, h.Port, h.B)
			seen[want]++
			if want == api.OK {
				sameRun(t, h)
			} else if got := h.run(); !same(got, answered{E: want}) {
				t.Fatalf("%.2000s, want %d: %.4000s, %.4000s", told(got), want, told(m.p), told(h.W))
			}
		}
	}
	if seen[api.OK] < 500 || seen[api.ErrArg] < 500 {
		t.Errorf("the sample says too little: %v", seen)
	}
}
