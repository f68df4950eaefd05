package exec_test

import (
	"math"
	"slices"
	"testing"

	"pointsman/api"
	"pointsman/code"
	"pointsman/exec"
	"pointsman/lower"
	"pointsman/parse"
	"pointsman/source"
)

const chapter = "header h { a 8; b 8; } parser { start { take h; go accept; } } control { h.b = h.b + 8w1; meta.out = 16w7; } deparser { h; }"

// every has all kinds of declarations and of statements.
const every = `header h { a 8 ; b 16 ; } header g { c 4 ; d 1 ; e 3 ; } meta { m 8 ; f 1 ; } register r 16 4 ; register u 1 2 ; counter k 4 ; meter y 4 1 1 ;
parser { s { take g ; go accept ; } start { take h ; select h . a { 8w1 : s ; 8w2 & 8wf : reject ; else accept ; } } }
action n ( ) { } action o ( p 8 , q 16 ) { h . a = p ; meta . out = q ; } table t { key { h . a exact ; h . b + 16w1 mask ; } actions o n ; default o ( 8w1 , 16w2 ) ; size 5 ; }
control { if valid g && g . d { apply t ; } else { o ( h . a , h . b ) ; } make g ; gone h ; count k [ h . a ] ; read h . b = r [ meta . m ] ; write u [ 1w1 ] = g . d ; meter meta . f = y [ 2w1 ] ;
random g . e ; drop ; digest h . a , hash crc32 ( h . b ) ; clone 3 ; again ; round ; g . c = ~ h . a [ 5 : 2 ] ; meta . m = cast 8 ( h . b ++ h . a ) ; }
deparser { g ; h ; }`

func TestExamples(t *testing.T) { // P16.1, P16.2
	p, c := of(t, chapter)
	w, _ := source.New(p)
	for _, x := range []struct {
		b    string
		want api.Pass
		seen exec.Seen
	}{
		{"\x01\x02\x03", api.Pass{End: api.EndSent, Packet: []byte{1, 3, 3}, Port: 7}, exec.Seen{Mask: make([]byte, 3), Least: 16, Fixed: true}},
		{"\x01", api.Pass{End: api.EndShort}, exec.Seen{Mask: make([]byte, 1), Least: 8}},
		{"\x01\xff", api.Pass{End: api.EndSent, Packet: []byte{1, 0}, Port: 7}, exec.Seen{Mask: make([]byte, 2), Least: 16, Fixed: true}},
	} {
		if got := (handed{p, c, w, 3, []byte(x.b)}).run(); !same(got, answered{x.want, w, x.seen, api.OK}) {
			t.Errorf("Run(%x) = %+v, want %+v, %+v", x.b, got, x.want, x.seen)
		}
	}
	if got := (handed{p, api.Code{}, w, 3, []byte{1, 2, 3}}).run(); !same(got, answered{E: api.ErrForm}) {
		t.Errorf("no code: %+v", got)
	}
}

// TestErrors: those of the pass by the tree come first, in its order, whatever the code is; nothing is beside one.
func TestErrors(t *testing.T) { // P16.1, R2
	var programs []api.Program
	for _, s := range []string{chapter, every, "", "header h{a 7;}", "header h{}", "control{x.a=1w1;}", "control{meta.port=8w1;}", "counter c 1;meter c 1 1 1;", "parser{start{go s;}}", "action a(){}table t{key{}actions a;default a();size 4097;}", "control{digest 8w1" + string(slices.Repeat([]byte(",8w1"), 64)) + ";}"} {
		p, line, e := parse.Parse(s)
		if e != api.OK {
			t.Fatal(s, line, e)
		}
		programs = append(programs, p)
	}
	programs = append(programs, api.Program{{}}, api.Program{{Kind: 255}}, make(api.Program, 5000))
	empty, blank := of(t, "")
	seen := map[api.Errno]int{}
	for _, p := range programs {
		own, _ := lower.Code(p)
		mine, _ := source.New(p)
		none, _ := source.New(empty)
		late := copied(mine, 0)
		late.Now = -1
		for _, w := range []api.World{mine, none, {}, late} {
			for _, port := range []int{0, 3, 65535, 65536, -1, math.MinInt, math.MaxInt, 1 << 32} {
				for _, n := range []int{0, 3, 2048, 2049, 65537} {
					for _, c := range []api.Code{own, {}, blank, {Slots: []int{16}}} {
						want := answered{}
						if want.Pass, want.World, want.E = source.Run(p, w, port, make([]byte, n)); want.E == api.OK && code.Check(c) != api.OK {
							want = answered{E: api.ErrForm}
						}
						got := handed{p, c, w, port, make([]byte, n)}.run()
						if want.E == api.OK && !same(c, own) {
							checkSome(t, got)
							continue
						}
						if want.E == api.OK {
							want.Seen = got.Seen
						}
						if !same(got, want) {
							t.Fatalf("Run(%.2000s, %.2000s, %.2000s, %d, %d bytes) = %.2000s, want %.2000s", told(p), told(c), told(w), port, n, told(got), told(want))
						}
						seen[got.E]++
					}
				}
			}
		}
	}
	for _, e := range []api.Errno{api.OK, api.ErrArg, api.ErrLimit, api.ErrName, api.ErrWidth, api.ErrForm} {
		if seen[e] == 0 {
			t.Errorf("no call answers %d", e)
		}
	}
}

// checkSome asks for some pass, or for ErrForm and nothing beside it.
func checkSome(t *testing.T, got answered) {
	t.Helper()
	ok := got.E == api.OK && got.Pass.End >= api.EndSent && got.Pass.End <= api.EndSteps
	if !ok && !same(got, answered{E: api.ErrForm}) {
		t.Fatalf("%.4000s", told(got))
	}
}

// TestWrongCode: code that may not be.
func TestWrongCode(t *testing.T) { // P16.1
	for _, s := range []string{"", chapter, every} {
		p, c := of(t, s)
		w, _ := source.New(p)
		port := c.Meta[0]
		for name, do := range map[string]func(c *api.Code){
			"no code":                func(c *api.Code) { *c = api.Code{} },
			"no metadata":            func(c *api.Code) { c.Meta = nil },
			"a slot of no width":     func(c *api.Code) { c.Slots[0] = 0 },
			"a port too narrow":      func(c *api.Code) { c.Slots[port] = 15 },
			"a slot twice":           func(c *api.Code) { c.Meta[1] = c.Meta[0] },
			"a number too narrow":    func(c *api.Code) { c.Main = append(c.Main, api.Ins{Op: api.InLit, To: port, Lit: number(8, 5)}) },
			"a jump back":            func(c *api.Code) { c.Main = append(c.Main, api.Ins{Op: api.InJump}) },
			"a jump beyond":          func(c *api.Code) { c.Main = append(c.Main, api.Ins{Op: api.InJump, N: 1 << 20}) },
			"no such slot":           func(c *api.Code) { c.Main = append(c.Main, api.Ins{Op: api.InMove, To: port, A: 1 << 20}) },
			"no such table":          func(c *api.Code) { c.Main = append(c.Main, api.Ins{Op: api.InApply, N: len(c.Tables)}) },
			"no such action":         func(c *api.Code) { c.Main = append(c.Main, api.Ins{Op: api.InCall, N: len(c.Acts)}) },
			"no such array":          func(c *api.Code) { c.Main = append(c.Main, api.Ins{Op: api.InCount, N: len(c.Arrays)}) },
			"no such header":         func(c *api.Code) { c.Main = append(c.Main, api.Ins{Op: api.InMake, N: len(c.Heads)}) },
			"no such op":             func(c *api.Code) { c.Main = append(c.Main, api.Ins{Op: api.InUnless + 1}) },
			"no op":                  func(c *api.Code) { c.Main = append(c.Main, api.Ins{}) },
			"no such node":           func(c *api.Code) { c.States = append(c.States, api.Node{Slot: -1, To: 99}) },
			"a node without a slot":  func(c *api.Code) { c.States = append(c.States, api.Node{Slot: -2, To: -1}) },
			"no such header put":     func(c *api.Code) { c.Emits = append(c.Emits, len(c.Heads)) },
			"more slots than may be": func(c *api.Code) { c.Slots = append(c.Slots, slices.Repeat([]int{1}, api.MaxCode)...) },
			"too many instructions": func(c *api.Code) {
				c.Main = append(c.Main, slices.Repeat([]api.Ins{{Op: api.InDrop}}, api.MaxCode+1)...)
			},
			"a table without actions": func(c *api.Code) { c.Tables = append(c.Tables, api.Table{Size: 1}) },
		} {
			spoilt := copied(c, 0)
			do(&spoilt)
			if got := (handed{p, spoilt, w, 3, []byte{1, 2, 3, 4}}).run(); code.Check(spoilt) == api.OK || !same(got, answered{E: api.ErrForm}) {
				t.Errorf("%s: %.2000s", name, told(got))
			}
		}
	}
}

// TestOtherCode: code that may be, but is not the program's, comes to some pass or to ErrForm.
func TestOtherCode(t *testing.T) { // P16.1, R1
	t.Parallel()
	r := dice(3)
	var makers []*maker
	var codes []api.Code
	for n := range 60 {
		m := made(r, n%30, false)
		if c, e := lower.Code(m.p); e == api.OK {
			makers, codes = append(makers, m), append(codes, c)
		}
	}
	seen := map[api.Errno]int{}
	for _, m := range makers {
		for _, c := range codes {
			got := handed{m.p, c, m.world(), r.IntN(65536), m.bytes()}.run()
			checkSome(t, got)
			seen[got.E]++
		}
	}
	if seen[api.ErrForm] < 1000 {
		t.Errorf("the sample says too little: %v", seen)
	}
}

// TestKindredCode: code of a program with the same arrays, tables and actions goes with the world; it comes to what that program comes to.
func TestKindredCode(t *testing.T) { // P16.1, R1
	t.Parallel()
	r := dice(4)
	for n := range 200 {
		m := made(r, n%30, n%2 == 0)
		if _, e := lower.Code(m.p); e != api.OK {
			continue
		}
		for without := range 8 {
			other := slices.DeleteFunc(slices.Clone(m.p), func(d api.Decl) bool {
				i := slices.Index([]api.DeclKind{api.DeParser, api.DeControl, api.DeDeparser}, d.Kind)
				return i >= 0 && without>>i&1 > 0
			})
			c, _ := lower.Code(other)
			h := handed{m.p, c, m.world(), r.IntN(65536), m.bytes()}
			got, want := h.run(), answered{}
			want.Pass, want.World, want.E = source.Run(other, h.W, h.Port, h.B)
			want.Seen = got.Seen
			if !same(got, want) {
				t.Fatalf("%.2000s, want %.2000s of %.4000s", told(got), told(want), told(other))
			}
		}
	}
}

// TestUnlikeCode: the program's code with one thing that is another does no harm. Where its arrays, tables or actions are not the program's, it can't go with the world.
func TestUnlikeCode(t *testing.T) { // P16.1, R1
	p, c := of(t, every)
	w, _ := source.New(p)
	w.Tables[0].Entries = []api.Entry{{Matches: []api.Match{{Value: number(8, 1)}, {Value: number(16, 0), Mask: number(16, 0)}}, Priority: 1, Action: "n"}}
	for want, spoilt := range map[api.Errno]map[string]func(c *api.Code){
		api.ErrForm: {
			"an array more":    func(c *api.Code) { c.Arrays = append(c.Arrays, c.Arrays[0]) },
			"an array's name":  func(c *api.Code) { c.Arrays[0].Name = "x" },
			"another kind":     func(c *api.Code) { c.Arrays[2].Kind, c.Arrays[3].Kind, c.Main = api.DeMeter, api.DeCounter, nil },
			"another width":    func(c *api.Code) { c.Arrays[0].W, c.Main = 17, nil },
			"an action more":   func(c *api.Code) { c.Acts = append(c.Acts, api.Act{Name: "z"}) },
			"an action's name": func(c *api.Code) { c.Acts[0].Name = "z" },
			"two of one name":  func(c *api.Code) { c.Acts[0].Name = "o" },
			"a param less": func(c *api.Code) {
				c.Acts[1].Params, c.Tables[0].Args, c.Main = c.Acts[1].Params[:1], c.Tables[0].Args[:1], nil
			},
			"params turned": func(c *api.Code) {
				slices.Reverse(c.Acts[1].Params)
				slices.Reverse(c.Tables[0].Args)
				c.Main = nil
			},
			"a table more":   func(c *api.Code) { c.Tables = append(c.Tables, c.Tables[0]) },
			"no table":       func(c *api.Code) { c.Tables, c.Main = nil, nil },
			"a table's name": func(c *api.Code) { c.Tables[0].Name = "x" },
			"kinds turned":   func(c *api.Code) { slices.Reverse(c.Tables[0].Kinds) },
			"a key more": func(c *api.Code) {
				c.Tables[0].Keys, c.Tables[0].Kinds = append(c.Tables[0].Keys, 0), append(c.Tables[0].Kinds, api.KeExact)
			},
			"a key less": func(c *api.Code) {
				c.Tables[0].Keys, c.Tables[0].Kinds = c.Tables[0].Keys[:1], c.Tables[0].Kinds[:1]
			},
		},
		api.OK: {
			"as it is":          func(c *api.Code) {},
			"keys turned":       func(c *api.Code) { slices.Reverse(c.Tables[0].Keys) },
			"another size":      func(c *api.Code) { c.Tables[0].Size = 1 },
			"another default":   func(c *api.Code) { c.Tables[0].Default, c.Tables[0].Args = 0, nil },
			"a header less":     func(c *api.Code) { c.Heads, c.States, c.Main, c.Emits = c.Heads[:1], nil, nil, nil },
			"nothing put":       func(c *api.Code) { c.Emits = nil },
			"nodes in a circle": func(c *api.Code) { c.States = []api.Node{{Slot: -1, To: 0}} },
		},
	} {
		for name, do := range spoilt {
			other := copied(c, 0)
			do(&other)
			if code.Check(other) != api.OK {
				t.Fatalf("%s: no code that may be", name)
			}
			for _, b := range [][]byte{nil, {1, 2, 3, 0xff, 5}, {5, 6, 7}} {
				got := handed{p, other, w, 3, b}.run()
				checkSome(t, got)
				if got.E != want {
					t.Errorf("%s: %d", name, got.E)
				}
			}
		}
	}
}

// TestEndlessCode: code that may be could do an action of half of all instructions as often as there are others.
func TestEndlessCode(t *testing.T) { // P16.1, R1
	p, c := of(t, "header h{a 8;} action f(){} table t{key{h.a exact;} actions f; default f(); size 1;} control{f();} deparser{h;}")
	w, _ := source.New(p)
	const half = api.MaxCode / 2
	for _, call := range []api.Ins{{Op: api.InCall}, {Op: api.InApply}} {
		for _, i := range []api.Ins{{Op: api.InClone}, {Op: api.InMake}, {Op: api.InOp, By: api.OpAdd, To: c.Meta[0], A: c.Meta[0], B: c.Meta[1]}, {Op: api.InJump}} {
			long := copied(c, 0)
			long.Main, long.Acts[0].Code = slices.Repeat([]api.Ins{call}, half), slices.Repeat([]api.Ins{i}, half)
			if i.Op == api.InJump {
				for at := range long.Acts[0].Code {
					long.Acts[0].Code[at].N = at + 1
				}
			}
			checkSome(t, handed{p, long, w, 1, nil}.run())
		}
	}
	// A parser that goes through all instructions in each of its steps.
	long := copied(c, 0)
	long.States = []api.Node{{Slot: -1, Code: slices.Repeat([]api.Ins{{Op: api.InMove, To: c.Meta[0], A: c.Meta[1]}}, api.MaxCode-1)}}
	if got := (handed{p, long, w, 1, nil}).run(); got.E == api.OK && got.Pass.End != api.EndSteps {
		t.Errorf("%+v", got.Pass)
	}
}
