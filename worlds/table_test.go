package worlds_test

import (
	"reflect"
	"slices"
	"testing"

	"pointsman/api"
	"pointsman/match"
	"pointsman/worlds"
)

// TestTables: those of a program, in order, whatever stands ahead of them or behind.
func TestTables(t *testing.T) {
	p := parsed(t, "table u{key{h.b prefix;h.a++meta.m mask;} actions g f; default f(); size 4096;} register r 5 2; action f(){} table t{key{} actions f; default f(); size 1;} action g(p 8){} header h{a 8;b 128;} meta{m 5;}")
	want := []match.Table{{Kinds: []api.KeyKind{api.KePrefix, api.KeMask}, Widths: []int{128, 13}, Size: 4096}, {Size: 1}}
	l := worlds.Tables(p)
	if len(l) != 2 || l[0].Name != "u" || l[1].Name != "t" || !reflect.DeepEqual([]match.Table{l[0].Table, l[1].Table}, want) {
		t.Errorf("%+v", l)
	}
	if l := worlds.Tables(parsed(t, "action f(){} counter k 1;")); len(l) > 0 {
		t.Errorf("without tables: %+v", l)
	}
	// What is told of a program is not kept in it.
	l[0].Kinds[0], l[0].Widths[0] = api.KeExact, 1
	if again := worlds.Tables(p); !reflect.DeepEqual(again[0].Table, want[0]) {
		t.Errorf("once more: %+v", again[0])
	}
}

func TestCanDo(t *testing.T) {
	l := worlds.Tables(parsed(t, "table t{key{} actions g f; default f(); size 1;} action f(){} action g(p 8,q 128){} action other(){} table u{key{} actions f; default f(); size 1;}"))
	long := api.Bits{W: 128, Hi: 1 << 63, Lo: 1}
	for _, c := range []struct {
		at     int
		action string
		args   []api.Bits
		want   api.Errno
	}{
		{0, "f", nil, api.OK}, {0, "f", []api.Bits{}, api.OK}, {0, "g", []api.Bits{number(8, 255), long}, api.OK}, {1, "f", nil, api.OK},
		{0, "other", nil, api.ErrName}, {0, "", nil, api.ErrName}, {0, "t", nil, api.ErrName}, {1, "g", []api.Bits{number(8, 255), long}, api.ErrName}, {1, "other", []api.Bits{{}}, api.ErrName},
		{0, "f", []api.Bits{number(8, 1)}, api.ErrWidth}, {0, "f", []api.Bits{{}}, api.ErrWidth}, {0, "g", nil, api.ErrWidth}, {0, "g", []api.Bits{number(8, 1)}, api.ErrWidth},
		{0, "g", []api.Bits{number(8, 1), long, long}, api.ErrWidth}, {0, "g", []api.Bits{long, number(8, 1)}, api.ErrWidth}, {0, "g", []api.Bits{number(7, 1), long}, api.ErrWidth}, {0, "g", []api.Bits{number(9, 1), long}, api.ErrWidth},
		{0, "g", []api.Bits{number(8, 256), long}, api.ErrWidth}, {0, "g", []api.Bits{{W: 8, Hi: 1}, long}, api.ErrWidth}, {0, "g", []api.Bits{{}, {}}, api.ErrWidth},
	} {
		if got := l[c.at].CanDo(c.action, c.args); got != c.want {
			t.Errorf("table %d: CanDo(%q, %v) = %d, want %d", c.at, c.action, c.args, got, c.want)
		}
	}
}

func TestArePorts(t *testing.T) {
	for _, n := range []int{0, 1, 15, 16, 17, 64} {
		if got := worlds.ArePorts(slices.Repeat([]int{65535}, n)); got != (n <= 16) {
			t.Errorf("%d ports: %v", n, got)
		}
	}
	for port, want := range map[int]bool{-1: false, 0: true, 65535: true, 65536: false} {
		if worlds.ArePorts([]int{0, port, 0}) != want {
			t.Errorf("port %d: %v", port, !want)
		}
	}
}

// TestCopiedEntries: a copy stays as it is, whatever is done to the entries it is of.
func TestCopiedEntries(t *testing.T) {
	made := func() []api.Entry {
		return []api.Entry{{Matches: []api.Match{{Len: 1}}, Priority: 2, Action: "f", Args: []api.Bits{number(8, 3)}}, {Action: "g"}}
	}
	l := made()
	got := worlds.CopiedEntries(l)
	l[0].Matches[0].Len, l[0].Args[0].Lo = 0, 0
	l[0], l[1] = api.Entry{}, api.Entry{}
	if !reflect.DeepEqual(got, made()) {
		t.Errorf("%+v", got)
	}
	if got := worlds.CopiedEntries(nil); len(got) > 0 {
		t.Errorf("of none: %+v", got)
	}
}
