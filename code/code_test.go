package code_test

import (
	"fmt"
	"math"
	"strings"
	"testing"

	"pointsman/api"
	"pointsman/code"
)

// Slots of whole.
const (
	port = iota
	out
	more      // of the metadata, 128 wide
	octet     // of the first head
	flag      // of the second head
	seven     // of the second head, 7 wide
	byteParam // of the first act
	wordParam // of the first act
	bit
	long // 64 wide
	half // 32 wide
	great
	spare // 8 wide
	word
	slots // how many there are
)

// Arrays of whole.
const (
	bytesRegister = iota
	counter
	meter
	greatRegister
	arrays
)

func number(w int, lo uint64) api.Bits { return api.Bits{W: w, Lo: lo} }

// whole is code that has something of each kind, and an instruction of each op.
func whole() api.Code {
	return api.Code{
		Slots:  []int{16, 16, 128, 8, 1, 7, 8, 16, 1, 64, 32, 128, 8, 16},
		Meta:   []int{port, out, more},
		Heads:  []api.Head{{Slots: []int{octet}}, {Slots: []int{flag, seven}}},
		Arrays: []api.Arr{{Name: "r", Kind: api.DeRegister, W: 8}, {Name: "c", Kind: api.DeCounter, W: 64}, {Name: "m", Kind: api.DeMeter, W: 64}, {Name: "s", Kind: api.DeRegister, W: 128}},
		Emits:  []int{1, 0},
		Acts: []api.Act{
			{Name: "f", Params: []int{byteParam, wordParam}, Code: []api.Ins{{Op: api.InMove, To: octet, A: byteParam}, {Op: api.InUnless, A: flag, N: 3}, {Op: api.InDrop}}},
			{Name: "g"},
		},
		States: []api.Node{
			{Heads: []int{0}, Code: []api.Ins{{Op: api.InValid, To: bit}}, Slot: octet, Cases: []api.Jump{{Value: number(8, 1), Mask: number(8, 255), To: 1}, {Value: number(8, 255), Mask: number(8, 1), To: -2}}, To: -1},
			{Heads: []int{1, 1, 0}, Slot: -1, To: 0},
		},
		Tables: []api.Table{
			{Name: "t", Keys: []int{octet, spare, great, port}, Kinds: []api.KeyKind{api.KeMask, api.KePrefix, api.KeRange, api.KeExact}, Actions: []int{1, 0}, Args: []api.Bits{number(8, 255), number(16, 1)}, Size: 4, Before: []api.Ins{{Op: api.InLit, To: spare, Lit: number(8, 3)}}},
			{Name: "u", Actions: []int{1}, Default: 1, Size: 1},
		},
		Main: []api.Ins{
			{Op: api.InApply, N: 1},
			{Op: api.InOp, By: api.OpEq, To: bit, A: octet, B: spare},
			{Op: api.InUnless, A: bit, N: 5},
			{Op: api.InCall, L: []int{spare, word}},
			{Op: api.InJump, N: 6},
			{Op: api.InDrop},
			{Op: api.InCount, N: counter, A: octet},
			{Op: api.InRead, To: spare, N: bytesRegister, A: great},
			{Op: api.InWrite, N: greatRegister, A: octet, B: great},
			{Op: api.InMeter, To: bit, N: meter, A: spare},
			{Op: api.InHash, To: half, N: 2, L: []int{octet, great}},
			{Op: api.InLit, To: long, Lit: number(64, math.MaxUint64)},
			{Op: api.InMove, To: great, A: more},
			{Op: api.InRandom, To: great},
			{Op: api.InDigest, L: []int{port, port}},
			{Op: api.InClone, N: 15},
			{Op: api.InMake, N: 1}, {Op: api.InGone}, {Op: api.InAgain}, {Op: api.InRound},
		},
	}
}

// spoilt is whole with something else.
func spoilt(edit func(c *api.Code)) api.Code {
	c := whole()
	edit(&c)
	return c
}

// checks asks for an answer, of Check and of the model.
func checks(t *testing.T, what any, c api.Code, ok bool) {
	t.Helper()
	want := api.ErrForm
	if ok {
		want = api.OK
	}
	if e := code.Check(c); e != want {
		t.Errorf("%v: Check says %d, want %d", what, e, want)
	}
	if l := faultsOf(c); len(l) > 0 == ok {
		t.Errorf("%v: the model says %.2000q", what, l)
	}
}

// list is n times x.
func list[T any](n int, x T) []T {
	l := make([]T, n)
	for i := range l {
		l[i] = x
	}
	return l
}

func TestExamples(t *testing.T) { // P12.1
	plain := func(main ...api.Ins) api.Code {
		return api.Code{Slots: []int{16, 16}, Meta: []int{0, 1}, Main: main}
	}
	checks(t, "no code", api.Code{}, false)
	checks(t, "two slots", plain(), true)
	checks(t, "InLit", plain(api.Ins{Op: api.InLit, Lit: number(16, 5)}), true)
	checks(t, "InLit of 8", plain(api.Ins{Op: api.InLit, Lit: number(8, 5)}), false)
	checks(t, "InJump to itself", plain(api.Ins{Op: api.InJump}), false)
	checks(t, "InMove of no slot", plain(api.Ins{Op: api.InMove, A: 7}), false)
	checks(t, "the whole", whole(), true)
	checks(t, "the whole, empty lists being there", emptied(whole()), true)
	checks(t, "the whole, with spare room", copied(whole(), 3), true)
}

// row is a row of the chapter's table, with instructions that may be and some that may not be.
type row struct {
	op    api.InsOp
	has   string // of "To A B N M L Lit By"
	least int    // 0: also in straight code, 1: in acts and Main, 2: in Main alone
	good  []api.Ins
	bad   []api.Ins
}

func rows() []row {
	fields := list(api.MaxFields, spare)
	tooMany := list(api.MaxFields+1, spare)
	return []row{
		{api.InLit, "To Lit", 0,
			[]api.Ins{{To: spare, Lit: number(8, 255)}, {Lit: number(16, 0)}, {To: bit, Lit: number(1, 1)}, {To: great, Lit: api.Bits{W: 128, Hi: math.MaxUint64, Lo: math.MaxUint64}}, {To: seven, Lit: number(7, 127)}, {To: byteParam, Lit: number(8, 0)}},
			[]api.Ins{{To: spare}, {}, {To: spare, Lit: number(8, 256)}, {To: spare, Lit: number(7, 0)}, {To: spare, Lit: number(9, 0)}, {To: spare, Lit: number(-8, 0)}, {To: long, Lit: api.Bits{W: 64, Hi: 1}}, {To: spare, Lit: number(0, 1)}, {To: great, Lit: number(129, 0)}}},
		{api.InMove, "To A", 0,
			[]api.Ins{{}, {To: spare, A: octet}, {To: octet, A: octet}, {To: port, A: wordParam}, {To: more, A: great}, {To: flag, A: bit}},
			[]api.Ins{{To: spare}, {A: spare}, {To: seven, A: octet}, {To: octet, A: seven}, {To: great, A: long}}},
		{api.InOp, "To A B By", 0,
			[]api.Ins{{By: api.OpAdd}, {By: api.OpAny, To: bit, A: flag, B: bit}, {By: api.OpCat, To: octet, A: flag, B: seven}, {By: api.OpShl, To: spare, A: octet, B: great}, {By: api.OpLe, To: flag, A: great, B: more}},
			[]api.Ins{{}, {By: api.OpLit}, {By: api.OpValid}, {By: api.OpHash}, {By: 255}, {By: api.OpAdd, A: spare}, {By: api.OpAny}, {By: api.OpShr, A: octet, B: port}, {By: api.OpCat, To: great, A: great, B: bit}, {By: api.OpEq}}},
		{api.InOp, "To A By", 0,
			[]api.Ins{{By: api.OpNot}, {By: api.OpNot, To: great, A: more}},
			[]api.Ins{{By: api.OpNot, A: spare}, {By: api.OpNot, To: spare}}},
		{api.InOp, "To A N By", 0,
			[]api.Ins{{By: api.OpCast, N: 16}, {By: api.OpCast, N: 128, To: great, A: bit}, {By: api.OpCast, N: 1, To: bit, A: great}},
			[]api.Ins{{By: api.OpCast}, {By: api.OpCast, N: 17}, {By: api.OpCast, N: 15}, {By: api.OpCast, N: 129, To: great}, {By: api.OpCast, N: -1, To: bit}, {By: api.OpCast, N: math.MinInt}}},
		{api.InOp, "To A N M By", 0,
			[]api.Ins{{By: api.OpSlice, N: 15}, {By: api.OpSlice, N: 127, M: 120, To: octet, A: great}, {By: api.OpSlice, To: bit, A: great}, {By: api.OpSlice, N: 7, M: 7, To: bit, A: octet}, {By: api.OpSlice, N: 7, M: 1, To: seven, A: octet}},
			[]api.Ins{{By: api.OpSlice, N: 16, M: 1}, {By: api.OpSlice, N: 14}, {By: api.OpSlice, N: 14, M: -1}, {By: api.OpSlice, To: bit, A: octet, N: 8, M: 8}, {By: api.OpSlice, To: bit, A: octet, N: 1, M: 2}, {By: api.OpSlice, N: math.MaxInt, M: math.MaxInt - 15}, {By: api.OpSlice, N: math.MinInt + 15, M: math.MinInt}}},
		{api.InHash, "To N L", 0,
			[]api.Ins{{N: 1, L: []int{0}}, {To: half, N: 2, L: fields}, {To: word, N: 3, L: []int{great, bit, bit}}, {To: word, N: 4, L: []int{word}}},
			[]api.Ins{{L: []int{1}}, {N: 5, L: []int{1}}, {N: -1, L: []int{1}}, {N: math.MaxInt, L: []int{1}}, {N: 1}, {N: 1, L: []int{}}, {N: 1, L: tooMany}, {N: 2, L: []int{1}}, {To: half, N: 1, L: []int{1}}, {To: half, N: 3, L: []int{1}}, {To: half, N: 4, L: []int{1}}, {To: long, N: 2, L: []int{1}}}},
		{api.InValid, "To N", 0,
			[]api.Ins{{To: bit}, {To: flag, N: 1}},
			[]api.Ins{{}, {To: seven}, {To: bit, N: 2}, {To: bit, N: -1}, {To: bit, N: math.MinInt}}},
		{api.InMake, "N", 1, []api.Ins{{}, {N: 1}}, []api.Ins{{N: 2}, {N: -1}, {N: math.MaxInt}}},
		{api.InGone, "N", 1, []api.Ins{{}, {N: 1}}, []api.Ins{{N: 2}, {N: -1}, {N: math.MaxInt}}},
		{api.InCount, "N A", 1,
			[]api.Ins{{N: counter}, {N: counter, A: great}, {N: counter, A: flag}},
			[]api.Ins{{N: bytesRegister}, {N: meter}, {N: greatRegister}, {N: arrays}, {N: -1}}},
		{api.InRead, "To N A", 1,
			[]api.Ins{{To: spare}, {To: octet, A: great}, {To: more, N: greatRegister, A: bit}},
			[]api.Ins{{}, {To: seven}, {To: great}, {To: spare, N: greatRegister}, {To: long, N: counter}, {To: long, N: meter}, {To: spare, N: arrays}, {To: spare, N: -1}}},
		{api.InWrite, "N A B", 1,
			[]api.Ins{{B: spare}, {B: octet, A: great}, {B: more, N: greatRegister, A: bit}},
			[]api.Ins{{}, {B: seven}, {B: great}, {A: spare, B: port}, {B: spare, N: greatRegister}, {B: long, N: counter}, {B: long, N: meter}, {B: spare, N: arrays}, {B: spare, N: -1}}},
		{api.InMeter, "To N A", 1,
			[]api.Ins{{To: bit, N: meter}, {To: flag, N: meter, A: great}},
			[]api.Ins{{N: meter}, {To: seven, N: meter}, {To: long, N: meter}, {To: bit}, {To: bit, N: counter}, {To: bit, N: greatRegister}, {To: bit, N: arrays}, {To: bit, N: -1}}},
		{api.InRandom, "To", 1, []api.Ins{{}, {To: bit}, {To: great}, {To: slots - 1}}, nil},
		{api.InDrop, "", 1, []api.Ins{{}, {L: []int{}}}, nil},
		{api.InAgain, "", 1, []api.Ins{{}}, nil},
		{api.InRound, "", 1, []api.Ins{{}}, nil},
		{api.InDigest, "L", 1, []api.Ins{{L: []int{0}}, {L: []int{great, great, bit}}, {L: fields}}, []api.Ins{{}, {L: []int{}}, {L: tooMany}}},
		{api.InClone, "N", 1, []api.Ins{{}, {N: 1}, {N: api.MaxGroup - 1}}, []api.Ins{{N: api.MaxGroup}, {N: -1}, {N: math.MaxInt}, {N: math.MinInt}}},
		{api.InApply, "N", 2, []api.Ins{{}, {N: 1}}, []api.Ins{{N: 2}, {N: -1}, {N: math.MaxInt}}},
		{api.InCall, "N L", 2,
			[]api.Ins{{L: []int{spare, word}}, {L: []int{byteParam, wordParam}}, {L: []int{octet, port}}, {N: 1}, {N: 1, L: []int{}}},
			[]api.Ins{{}, {L: []int{spare}}, {L: []int{word, spare}}, {L: []int{spare, word, word}}, {L: []int{spare, half}}, {L: []int{seven, word}}, {N: 1, L: []int{spare}}, {N: 2}, {N: -1}, {N: 2, L: []int{spare, word}}}},
		{api.InJump, "N", 1, []api.Ins{{N: 1}}, []api.Ins{{}, {N: 2}, {N: -1}, {N: math.MaxInt}, {N: math.MinInt}}},
		{api.InUnless, "A N", 1, []api.Ins{{A: bit, N: 1}, {A: flag, N: 1}}, []api.Ins{{A: bit}, {A: bit, N: 2}, {A: bit, N: -1}, {N: 1}, {A: seven, N: 1}, {A: great, N: 1}}},
	}
}

// places are the lists of instructions, each with the greatest least of the rows that may stand there.
var places = []struct {
	name string
	most int
	put  func(c *api.Code, l []api.Ins)
}{
	{"Main", 2, func(c *api.Code, l []api.Ins) { c.Main = l }},
	{"the first act", 1, func(c *api.Code, l []api.Ins) { c.Acts[0].Code = l }},
	{"the last act", 1, func(c *api.Code, l []api.Ins) { c.Acts[1].Code = l }},
	{"the first table", 0, func(c *api.Code, l []api.Ins) { c.Tables[0].Before = l }},
	{"the last table", 0, func(c *api.Code, l []api.Ins) { c.Tables[1].Before = l }},
	{"the first node", 0, func(c *api.Code, l []api.Ins) { c.States[0].Code = l }},
	{"the last node", 0, func(c *api.Code, l []api.Ins) { c.States[1].Code = l }},
}

// everywhere puts an instruction alone into each list, where rows up to that one may stand.
func everywhere(t *testing.T, i api.Ins, least int, ok bool) {
	t.Helper()
	for _, p := range places {
		c := spoilt(func(c *api.Code) { p.put(c, []api.Ins{i}) })
		checks(t, fmt.Sprintf("%+v in %s", i, p.name), c, ok && least <= p.most)
	}
}

func TestRows(t *testing.T) { // P12.1
	seen := map[api.InsOp]bool{}
	for _, r := range rows() {
		seen[r.op] = true
		for _, i := range r.good {
			i.Op = r.op
			everywhere(t, i, r.least, true)
			notNamed(t, r, i)
			noSlots(t, r, i)
		}
		for _, i := range r.bad {
			i.Op = r.op
			everywhere(t, i, r.least, false)
		}
	}
	for op := range 256 {
		if known := api.InLit <= api.InsOp(op) && op <= int(api.InUnless); known != seen[api.InsOp(op)] {
			t.Errorf("op %d is asked for: %v", op, !known)
		} else if !known {
			everywhere(t, api.Ins{Op: api.InsOp(op)}, 0, false)
			everywhere(t, api.Ins{Op: api.InsOp(op), To: bit, N: 1}, 0, false)
		}
	}
}

// notNamed: a part that the row does not name is not zero, whatever else it would be good for.
func notNamed(t *testing.T, r row, i api.Ins) {
	t.Helper()
	named := " " + r.has + " "
	for part, values := range map[string][]func(i *api.Ins){
		"To":  {func(i *api.Ins) { i.To = 1 }, func(i *api.Ins) { i.To = -1 }, func(i *api.Ins) { i.To = math.MaxInt }},
		"A":   {func(i *api.Ins) { i.A = 1 }, func(i *api.Ins) { i.A = -1 }, func(i *api.Ins) { i.A = bit }},
		"B":   {func(i *api.Ins) { i.B = 1 }, func(i *api.Ins) { i.B = -1 }, func(i *api.Ins) { i.B = i.A + 1 }},
		"N":   {func(i *api.Ins) { i.N = 1 }, func(i *api.Ins) { i.N = -1 }, func(i *api.Ins) { i.N = math.MinInt }},
		"M":   {func(i *api.Ins) { i.M = 1 }, func(i *api.Ins) { i.M = -1 }, func(i *api.Ins) { i.M = math.MinInt }},
		"L":   {func(i *api.Ins) { i.L = []int{0} }, func(i *api.Ins) { i.L = []int{bit, bit} }, func(i *api.Ins) { i.L = []int{-1} }},
		"Lit": {func(i *api.Ins) { i.Lit = number(16, 0) }, func(i *api.Ins) { i.Lit.Lo = 1 }, func(i *api.Ins) { i.Lit.Hi = 1 }},
		"By":  {func(i *api.Ins) { i.By = api.OpAdd }, func(i *api.Ins) { i.By = api.OpLit }, func(i *api.Ins) { i.By = 255 }},
	} {
		for _, set := range values {
			if !strings.Contains(named, " "+part+" ") {
				x := i
				set(&x)
				everywhere(t, x, r.least, false)
			}
		}
	}
}

// noSlots: a number that the row names is no slot.
func noSlots(t *testing.T, r row, i api.Ins) {
	t.Helper()
	for _, n := range []int{-1, slots, math.MaxInt, math.MinInt} {
		for _, part := range strings.Fields(r.has) {
			x := i
			switch part {
			case "To":
				x.To = n
			case "A":
				x.A = n
			case "B":
				x.B = n
			default:
				continue
			}
			everywhere(t, x, r.least, false)
		}
		for k := range i.L {
			x := i
			x.L = append(append(append([]int{}, i.L[:k]...), n), i.L[k+1:]...)
			everywhere(t, x, r.least, false)
		}
	}
}

// TestWhereInAList: an instruction that may not be is found wherever it stands; jumps lead ahead, at most to the end.
func TestWhereInAList(t *testing.T) { // P12.1
	const n = 4
	for _, p := range places {
		for at := range n {
			fill := api.Ins{Op: api.InMove}
			l := list(n, fill)
			l[at] = api.Ins{Op: api.InMove, To: spare}
			checks(t, fmt.Sprint(p.name, at), spoilt(func(c *api.Code) { p.put(c, l) }), false)
			for to := -1; to <= n+1; to++ {
				for _, jump := range []api.Ins{{Op: api.InJump, N: to}, {Op: api.InUnless, A: bit, N: to}} {
					l := list(n, fill)
					l[at] = jump
					checks(t, fmt.Sprint(p.name, at, jump), spoilt(func(c *api.Code) { p.put(c, l) }), at < to && to <= n && p.most > 0)
				}
			}
		}
	}
}

// asker asks for one operation after another.
type asker struct {
	t      *testing.T
	widths []int
}

// ask tells with how many slots as To the operation may be. To is as wide as the number, and no other; it may not be at all, if it has what it does not ask for.
func (a asker) ask(i api.Ins, more bool) int {
	a.t.Helper()
	c := api.Code{Slots: a.widths, Meta: []int{0, 1}, Main: []api.Ins{i}}
	want := widthOf(i.By, a.widths[i.A], a.widths[i.B], i.N, i.M)
	right := 0
	for to, w := range a.widths {
		c.Main[0].To = to
		e := code.Check(c)
		if ok := !more && w == want; ok != (e == api.OK) || e != api.OK && e != api.ErrForm {
			a.t.Fatalf("%+v: Check says %d, the number being %d wide", c.Main[0], e, want)
		}
		if e == api.OK {
			right++
		}
	}
	return right
}

// TestOperations: each operation, with widths and numbers from both sides of each bound.
func TestOperations(t *testing.T) { // P12.1
	t.Parallel()
	a := asker{t, []int{16, 16, 1, 2, 8, 15, 17, 63, 64, 65, 112, 127, 128}}
	numbers := []int{1, 2, 7, 8, 15, 16, 17, 63, 64, 111, 126, 127, 128, 129, -1, math.MaxInt, math.MinInt, 0}
	for op := range 256 {
		i := api.Ins{Op: api.InOp, By: api.Op(op)}
		right := 0
		for i.A = range a.widths {
			switch i.By {
			case api.OpSlice:
				right += a.slices(i, numbers)
			case api.OpCast:
				right += a.casts(i, numbers)
			default:
				right += a.others(i, numbers)
			}
		}
		if (right > 0) != (api.OpAdd <= i.By && i.By <= api.OpAny) {
			t.Errorf("operation %d: %d may be", op, right)
		}
	}
}

func (a asker) slices(i api.Ins, numbers []int) int {
	right := 0
	for _, i.N = range numbers {
		for _, i.M = range numbers {
			right += a.ask(i, false)
		}
	}
	i.N, i.M, i.B = 0, 0, 1
	a.ask(i, true)
	return right
}

func (a asker) casts(i api.Ins, numbers []int) int {
	right := 0
	for _, i.N = range numbers {
		right += a.ask(i, false)
		withM, withB := i, i
		withM.M, withB.B = 1, 1
		a.ask(withM, true)
		a.ask(withB, true)
	}
	return right
}

// others ask for no N and no M; OpNot for no B.
func (a asker) others(i api.Ins, numbers []int) int {
	right := 0
	for i.B = range a.widths {
		right += a.ask(i, i.By == api.OpNot && i.B > 0)
	}
	i.B = i.A
	if i.By == api.OpNot {
		i.B = 0
	}
	for _, n := range numbers[:len(numbers)-1] {
		withN, withM := i, i
		withN.N, withM.M = n, n
		a.ask(withN, true)
		a.ask(withM, true)
	}
	return right
}
