package state_test

import (
	"math"
	"slices"
	"testing"

	"pointsman/api"
	"pointsman/disk"
	"pointsman/state"
)

// ofT is an entry of the table t of three, ofU one of u.
func ofT(lo uint64, action string, args ...api.Bits) api.Entry {
	return api.Entry{Matches: []api.Match{{Value: number(8, lo)}, {Value: number(16, 0x8000), Len: 1}}, Action: action, Args: args}
}

func ofU(priority int, args ...api.Bits) api.Entry {
	return api.Entry{Matches: []api.Match{{Value: number(128, 4), Mask: number(128, 6)}, {Value: number(5, 1), Mask: number(5, 31)}}, Priority: priority, Action: "g", Args: args}
}

// stateOfThree is a state with something in all lists of its world.
func stateOfThree(t *testing.T) (*state.State, *disk.Disk) {
	t.Helper()
	s, d := stateWith(t, 100000, three)
	l := groups(16)
	for _, e := range []api.Entry{ofT(1, "g", number(16, 1)), ofT(2, "k", number(8, 2), number(128, 2)), ofT(3, "f")} {
		l = append(l, api.Update{Kind: api.UpInsert, Table: "t", Entry: e})
	}
	for _, e := range []api.Entry{ofU(1, number(16, 1)), ofU(math.MaxInt32, number(16, 2))} {
		l = append(l, api.Update{Kind: api.UpInsert, Table: "u", Entry: e})
	}
	l = append(l, api.Update{Kind: api.UpInsert, Table: "v", Entry: api.Entry{Action: "f"}}, api.Update{Kind: api.UpGroup, N: 5, Ports: []int{7, 8}}, api.Update{Kind: api.UpGroup, N: 6})
	does(t, s, write(l...))
	s.Tick(100)
	return s, d
}

// TestSet: the arrays, the tick and what the next random number is made of may be others.
func TestSet(t *testing.T) { // P20.3
	for name, change := range map[string]func(w *api.World){
		"nothing":           func(*api.World) {},
		"a register":        func(w *api.World) { w.Arrays[0].Cells[1].Lo = 31 },
		"a counter":         func(w *api.World) { w.Arrays[1].Cells[0].Lo = math.MaxUint64 },
		"tokens":            func(w *api.World) { w.Arrays[2].Cells[1].Lo, w.Arrays[2].Last[1] = 0, 100 },
		"tokens, later":     func(w *api.World) { w.Arrays[2].Last[0] = math.MaxInt },
		"Random":            func(w *api.World) { w.Random = math.MaxUint64 },
		"Random 0":          func(w *api.World) { w.Random = 0 },
		"Now":               func(w *api.World) { w.Now = 101 },
		"Now, back":         func(w *api.World) { w.Now = 0 },
		"Now, the last one": func(w *api.World) { w.Now = math.MaxInt32 },
		"empty lists":       func(w *api.World) { w.Groups[6].Ports, w.Tables[0].Entries[2].Args = []int{}, []api.Bits{} },
		"all": func(w *api.World) {
			w.Now, w.Random, w.Arrays[0].Cells[0].Lo, w.Arrays[1].Cells[1].Lo, w.Arrays[2].Cells[0].Lo = 9, 9, 9, 9, 9
		},
	} {
		s, d := stateOfThree(t)
		was, kept := look(s), d.Bytes()
		w := s.World()
		change(&w)
		if e := s.Set(w); e != api.OK {
			t.Errorf("%s: Set: %d", name, e)
		}
		if got := look(s); !same(got, looks{was.P, was.C, w}) {
			t.Errorf("%s: %+v, want %+v", name, got.W, w)
		}
		if !same(d.Bytes(), kept) {
			t.Errorf("%s: the disk is changed", name)
		}
		if e := s.Set(was.W); e != api.OK || !same(look(s), was) {
			t.Errorf("%s: back: %d", name, e)
		}
	}
}

// TestSetOtherRows: rows and groups may be no others than the state's, be they the program's or not.
func TestSetOtherRows(t *testing.T) { // P20.3
	for name, change := range map[string]func(w *api.World){
		"an entry less":          func(w *api.World) { w.Tables[0].Entries = w.Tables[0].Entries[:2] },
		"no entries":             func(w *api.World) { w.Tables[1].Entries = nil },
		"an entry of none less":  func(w *api.World) { w.Tables[2].Entries = nil },
		"the first one less":     func(w *api.World) { w.Tables[0].Entries = w.Tables[0].Entries[1:] },
		"turned":                 func(w *api.World) { slices.Reverse(w.Tables[0].Entries) },
		"a value":                func(w *api.World) { w.Tables[0].Entries[2].Matches[0].Value.Lo = 9 },
		"a Len":                  func(w *api.World) { w.Tables[0].Entries[1].Matches[1].Len = 2 },
		"a mask":                 func(w *api.World) { w.Tables[1].Entries[0].Matches[0].Mask.Lo = 7 },
		"a priority":             func(w *api.World) { w.Tables[1].Entries[0].Priority = 2 },
		"an action":              func(w *api.World) { w.Tables[1].Entries[0] = ofUByK() },
		"an action alone":        func(w *api.World) { w.Tables[0].Entries[0].Action = "l" },
		"an arg":                 func(w *api.World) { w.Tables[0].Entries[0].Args[0].Lo = 2 },
		"the last arg's highest": func(w *api.World) { w.Tables[0].Entries[1].Args[1].Hi = 1 << 63 },
		"a default":              func(w *api.World) { w.Tables[0].Default, w.Tables[0].Args = "f", nil },
		"a default alone":        func(w *api.World) { w.Tables[0].Default = "l" },
		"a default's arg":        func(w *api.World) { w.Tables[0].Args[0].Lo = 8 },
		"a port":                 func(w *api.World) { w.Groups[15].Ports[0] = 9 },
		"ports turned":           func(w *api.World) { slices.Reverse(w.Groups[5].Ports) },
		"a port more":            func(w *api.World) { w.Groups[6].Ports = []int{0} },
		"no ports":               func(w *api.World) { w.Groups[0].Ports = nil },
		"groups turned":          func(w *api.World) { w.Groups[3], w.Groups[4] = w.Groups[4], w.Groups[3] },
	} {
		s, d := stateOfThree(t)
		w := s.World()
		change(&w)
		w.Random, w.Now, w.Arrays[0].Cells[0].Lo = 9, 9, 9
		stays(t, name, s, d, func() {
			if e := s.Set(w); e != api.ErrArg {
				t.Errorf("%s: Set: %d", name, e)
			}
		})
	}
}

// ofUByK is the first entry of u with another action.
func ofUByK() api.Entry {
	e := ofU(1, number(8, 1), number(128, 2))
	e.Action = "k"
	return e
}

// TestSetNoWorld: what is not the program's world is refused.
func TestSetNoWorld(t *testing.T) { // P20.3
	for name, change := range map[string]func(w *api.World){
		"nothing":           func(w *api.World) { *w = api.World{} },
		"Now alone":         func(w *api.World) { *w = api.World{Now: w.Now} },
		"Now below 0":       func(w *api.World) { w.Now = -1 },
		"Now far below":     func(w *api.World) { w.Now = math.MinInt },
		"no groups":         func(w *api.World) { w.Groups = nil },
		"15 groups":         func(w *api.World) { w.Groups = w.Groups[:15] },
		"17 groups":         func(w *api.World) { w.Groups = append(w.Groups, api.Group{}) },
		"no tables":         func(w *api.World) { w.Tables = nil },
		"a table less":      func(w *api.World) { w.Tables = w.Tables[:2] },
		"a table more":      func(w *api.World) { w.Tables = append(w.Tables, w.Tables[2]) },
		"tables turned":     func(w *api.World) { slices.Reverse(w.Tables) },
		"a table's name":    func(w *api.World) { w.Tables[2].Name = "w" },
		"an entry too many": func(w *api.World) { w.Tables[2].Entries = slices.Repeat(w.Tables[2].Entries, 2) },
		"no arrays":         func(w *api.World) { w.Arrays = nil },
		"an array less":     func(w *api.World) { w.Arrays = w.Arrays[:2] },
		"an array more":     func(w *api.World) { w.Arrays = append(w.Arrays, w.Arrays[0]) },
		"arrays turned":     func(w *api.World) { slices.Reverse(w.Arrays) },
		"an array's name":   func(w *api.World) { w.Arrays[0].Name = "x" },
		"an array's kind":   func(w *api.World) { w.Arrays[1].Kind = api.DeRegister },
		"an array's width":  func(w *api.World) { w.Arrays[0].W = 6 },
		"a rate":            func(w *api.World) { w.Arrays[2].Rate = 2 },
		"a burst":           func(w *api.World) { w.Arrays[2].Burst = 10 },
		"a cell less":       func(w *api.World) { w.Arrays[0].Cells = w.Arrays[0].Cells[:1] },
		"a cell more":       func(w *api.World) { w.Arrays[1].Cells = append(w.Arrays[1].Cells, number(64, 0)) },
		"a cell's width":    func(w *api.World) { w.Arrays[0].Cells[0].W = 6 },
		"a cell's bits":     func(w *api.World) { w.Arrays[0].Cells[0].Lo = 32 },
		"too many tokens":   func(w *api.World) { w.Arrays[2].Cells[0].Lo = 10 },
		"a Last less":       func(w *api.World) { w.Arrays[2].Last = w.Arrays[2].Last[:1] },
		"a Last below 0":    func(w *api.World) { w.Arrays[2].Last[0] = -1 },
		"a Last too many":   func(w *api.World) { w.Arrays[0].Last = []int{0, 0} },
		"another program's": func(w *api.World) { *w = begun(t, chapter).W },
		"a program's as new": func(w *api.World) {
			*w = begun(t, three).W
		},
	} {
		s, d := stateOfThree(t)
		w := s.World()
		change(&w)
		stays(t, name, s, d, func() {
			if e := s.Set(w); e != api.ErrArg {
				t.Errorf("%s: Set: %d", name, e)
			}
		})
	}
}

// TestSetNothing: while nothing is installed there is no world to be set.
func TestSetNothing(t *testing.T) { // P20.3
	s, d := stateWith(t, 1000, "")
	s.Tick(4)
	for name, w := range map[string]api.World{"its own": s.World(), "zero": {}, "of no program": begun(t, "").W, "of a program": begun(t, chapter).W} {
		stays(t, name, s, d, func() {
			if e := s.Set(w); e != api.ErrArg {
				t.Errorf("%s: Set: %d", name, e)
			}
		})
	}
	// A program without a declaration is one that is installed.
	does(t, s, install(""))
	w := begun(t, "").W
	w.Now = 9
	if e := s.Set(w); e != api.OK || !same(look(s), looks{begun(t, "").P, begun(t, "").C, w}) {
		t.Errorf("Set: %d, %+v", e, look(s))
	}
	// Refused installs leave nothing installed.
	s, _ = stateWith(t, 10, "")
	do(s, install(""))
	do(s, install(chapter))
	if e := s.Set(begun(t, "").W); e != api.ErrArg || !same(look(s), looks{}) {
		t.Errorf("behind a refused install: Set: %d", e)
	}
}

// TestTick: ticks go by as far as the last one, whether anything is installed or not.
func TestTick(t *testing.T) { // P20.3
	const last = math.MaxInt32
	for _, text := range []string{"", chapter} {
		for _, c := range []struct {
			n    []int
			want int
		}{
			{nil, 0}, {[]int{0}, 0}, {[]int{1}, 1}, {[]int{1, 0, 2, 3}, 6}, {[]int{last - 1}, last - 1}, {[]int{last}, last}, {[]int{last + 1}, last}, {[]int{math.MaxInt}, last},
			{[]int{1, last - 1}, last}, {[]int{1, last}, last}, {[]int{last, 0}, last}, {[]int{last, 1}, last}, {[]int{last, math.MaxInt}, last}, {[]int{5, math.MaxInt, math.MaxInt}, last},
			{[]int{last - 1, 1}, last}, {[]int{last - 2, 1}, last - 1},
		} {
			s, d := stateWith(t, 1000, text)
			was, kept := look(s), d.Bytes()
			for _, n := range c.n {
				if e := s.Tick(n); e != api.OK {
					t.Errorf("Tick(%d): %d", n, e)
				}
			}
			want := was
			want.W.Now = c.want
			if got := look(s); !same(got, want) || !same(d.Bytes(), kept) {
				t.Errorf("%v: %+v, want %+v", c.n, got.W, want.W)
			}
			for _, n := range []int{-1, -last, math.MinInt} {
				stays(t, "below 0", s, d, func() {
					if e := s.Tick(n); e != api.ErrArg {
						t.Errorf("Tick(%d): %d", n, e)
					}
				})
			}
		}
	}
	// Of a world that is behind the last tick it is that one again.
	s, _ := stateWith(t, 1000, chapter)
	for _, now := range []int{last + 1, math.MaxInt} {
		w := s.World()
		w.Now = now
		if s.Set(w) != api.OK || s.World().Now != now || s.Tick(1) != api.OK || s.World().Now != last {
			t.Errorf("Now %d: %d", now, s.World().Now)
		}
	}
}
