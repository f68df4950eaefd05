package yard_test

import (
	"math/rand/v2"
	"reflect"
	"testing"

	"pointsman/api"
	"pointsman/wire"
	"pointsman/yard"
)

// anything lays whatever comes up into v.
func anything(r *rand.Rand, v reflect.Value, deep int) {
	switch v.Kind() {
	case reflect.Struct:
		for i := range v.NumField() {
			anything(r, v.Field(i), deep)
		}
	case reflect.Slice:
		n := r.IntN(4)
		if deep == 0 {
			n = 0
		}
		v.Set(reflect.MakeSlice(v.Type(), n, n))
		for i := range n {
			anything(r, v.Index(i), deep-1)
		}
	default:
		if r.IntN(2) == 0 {
			spoil(r, v)
		}
	}
}

// whatever is a value of that type.
func whatever[T any](r *rand.Rand) T {
	var x T
	anything(r, reflect.ValueOf(&x).Elem(), 4)
	return x
}

// mayCome: has an output just what its kind names?
func mayCome(o api.Out) bool {
	plain := api.Out{Kind: o.Kind}
	switch o.Kind {
	case api.OuReply:
		plain.Data = o.Data
		_, n, e := wire.DecodeReply(o.Data)
		if e != api.OK || n != len(o.Data) {
			return false
		}
	case api.OuPacket:
		plain.Port, plain.Data = o.Port, o.Data
	case api.OuDigest:
		plain.Values = o.Values
	case api.OuDrop:
		plain.Port, plain.End = o.Port, o.End
	default:
		return false
	}
	return same(o, plain)
}

// TestAnything: whatever comes in, each call ends, and what is refused changes nothing.
func TestAnything(t *testing.T) { // R1, R2, P0.6
	t.Parallel()
	r := maker{dice(4)}
	seen := map[api.Errno]int{}
	for range 200 {
		y := made(t, roomy())
		if r.IntN(4) > 0 {
			does(t, y, install(r.text()))
		}
		for range 20 {
			e := whatever[api.Event](r.Rand)
			switch r.IntN(4) {
			case 0:
				e.Kind = api.EventKind(1 + r.IntN(5))
			case 1:
				e = api.Event{Kind: api.EvPacket, Port: e.Port, Data: e.Data}
			case 2:
				e = api.Event{Kind: api.EventKind(3 + r.IntN(3)), N: e.N}
			}
			was := y.World()
			got := do(y, e)
			if got.E != api.OK && (got.E != api.ErrArg || got.Outs != nil || !same(y.World(), was)) {
				t.Fatalf("Do(%.3000s) = %+v", told(e), got)
			}
			for _, o := range got.Outs {
				if !mayCome(o) {
					t.Fatalf("Do(%.3000s) = %+v", told(e), got)
				}
			}
			seen[got.E]++
		}
	}
	if seen[api.OK] < 500 || seen[api.ErrArg] < 500 {
		t.Errorf("the sample says too little: %v", seen)
	}
}

// TestAnyConfig: whatever a config is, there is a switch, or ErrArg.
func TestAnyConfig(t *testing.T) { // P21.1, R1, R2
	r := dice(5)
	seen := map[api.Errno]int{}
	for range 3000 {
		c := whatever[yard.Config](r)
		if r.IntN(2) == 0 {
			c.Cache, c.Queue, c.Disk = r.IntN(api.MaxCache+5)-2, r.IntN(api.MaxQueue+3)-1, r.IntN(5)
		}
		want := api.OK
		if c.Cache < 0 || c.Cache > api.MaxCache || c.Queue < 0 || c.Queue > api.MaxQueue || c.Disk < 1 || c.Disk > api.MaxDisk {
			want = api.ErrArg
		}
		y, e := yard.New(c)
		if e != want || (y != nil) != (want == api.OK) {
			t.Fatalf("New(%+v) = %v, %d, want %d", c, y, e, want)
		}
		seen[e]++
	}
	if seen[api.OK] < 300 || seen[api.ErrArg] < 300 {
		t.Errorf("the sample says too little: %v", seen)
	}
}

// TestAnyBytes: frames of any bytes are answered, those that ask for nothing with an error.
func TestAnyBytes(t *testing.T) { // P21.2, R1
	t.Parallel()
	r := maker{dice(7)}
	seen := map[api.Errno]int{}
	for n := range 1500 {
		y := made(t, roomy())
		if n%3 > 0 {
			does(t, y, install(pick(r.Rand, []string{"", chapter, three, busy})))
		}
		for range 4 {
			e := r.framed(pick(r.Rand, []api.Request{install(chapter), write(row(1)), insertFive(), write(group(1, 2), group(3)), read("t"), cell("c", 1)}))
			for range r.IntN(3) {
				if len(e.Data) > 0 {
					e.Data[r.IntN(len(e.Data))] ^= 1 << r.IntN(8)
				}
			}
			was := y.World()
			got := do(y, e)
			if len(got.Outs) != 1 || got.Outs[0].Kind != api.OuReply || !mayCome(got.Outs[0]) {
				t.Fatalf("Do(%x) = %+v", e.Data, got)
			}
			reply, _, _ := wire.DecodeReply(got.Outs[0].Data)
			if reply.Error != api.OK && !same(y.World(), was) {
				t.Fatalf("Do(%x) = %+v changes something", e.Data, got)
			}
			seen[reply.Error]++
		}
	}
	for _, e := range []api.Errno{api.OK, api.ErrArg, api.ErrSyntax, api.ErrName, api.ErrForm, api.ErrShort, api.ErrGone} {
		if seen[e] < 30 {
			t.Errorf("the sample says too little of %d: %v", e, seen)
		}
	}
}
