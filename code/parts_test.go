package code_test

import (
	"fmt"
	"math"
	"testing"

	"pointsman/api"
)

// edits are changes of whole, and whether it may be with each.
type edits []struct {
	name string
	ok   bool
	edit func(c *api.Code)
}

func (l edits) ask(t *testing.T) {
	t.Helper()
	for _, x := range l {
		checks(t, x.name, spoilt(x.edit), x.ok)
	}
}

// grown adds slots, so wide, and tells them.
func grown(c *api.Code, n, width int) []int {
	var l []int
	for range n {
		l = append(l, len(c.Slots))
		c.Slots = append(c.Slots, width)
	}
	return l
}

func TestSlots(t *testing.T) { // P12.1
	for w, ok := range map[int]bool{0: false, 1: true, 2: true, 64: true, 127: true, 128: true, 129: false, -1: false, math.MaxInt: false, math.MinInt: false} {
		checks(t, fmt.Sprint("a slot of ", w), spoilt(func(c *api.Code) { grown(c, 1, w) }), ok)
		checks(t, fmt.Sprint("two slots, the first of ", w), spoilt(func(c *api.Code) { grown(c, 1, w); grown(c, 1, 1) }), ok)
	}
	edits{
		{"MaxCode", true, func(c *api.Code) { grown(c, api.MaxCode-slots, 128) }},
		{"more", false, func(c *api.Code) { grown(c, api.MaxCode-slots+1, 1) }},
		{"the last one", true, func(c *api.Code) { c.Meta = append(c.Meta, grown(c, api.MaxCode-slots, 1)[api.MaxCode-slots-1]) }},
		{"behind the last one", false, func(c *api.Code) { c.Meta = append(c.Meta, slots) }},
		{"none", false, func(c *api.Code) { c.Slots = nil }},
	}.ask(t)
	checks(t, "no slots, but for a state", api.Code{States: []api.Node{{Slot: -1, To: -1}}}, false)
	checks(t, "no slots, but for an instruction", api.Code{Main: []api.Ins{{Op: api.InDrop}}}, false)
}

func TestHeads(t *testing.T) { // P12.1
	head := func(l ...int) func(c *api.Code) {
		return func(c *api.Code) { c.Heads[1].Slots = l }
	}
	fields := func(heads, n, width int) func(c *api.Code) {
		return func(c *api.Code) {
			for range heads {
				c.Heads = append(c.Heads, api.Head{Slots: grown(c, n, width)})
			}
		}
	}
	edits{
		{"none", false, func(c *api.Code) { c.Heads = nil }}, // the nodes ask for them
		{"MaxDecls", true, fields(api.MaxDecls-2, 1, 8)}, {"one more", false, fields(api.MaxDecls-1, 1, 8)}, {"MaxDecls, MaxFields each", true, fields(api.MaxDecls-2, 64, 8)},
		{"no fields", false, head()}, {"MaxFields", true, fields(1, api.MaxFields, 1)}, {"one more field", false, fields(1, api.MaxFields+1, 8)}, {"as many more that it is whole bytes", false, fields(1, api.MaxFields+8, 1)},
		{"7 bits", false, head(seven)}, {"1 bit", false, head(flag)}, {"8 bits", true, head(seven, flag)}, {"9 bits", false, fields(1, 9, 1)}, {"16 bits", true, fields(1, 16, 1)}, {"12 bits", false, fields(1, 1, 12)}, {"128 bits", true, fields(1, 1, 128)}, {"63 times 8 bits and one", false, fields(1, 9, 57)},
		{"the first one's bits and the second's make bytes", false, func(c *api.Code) { c.Heads[0].Slots, c.Heads[1].Slots = []int{flag}, []int{seven} }},
		{"no slot", false, head(flag, seven, slots)}, {"below 0", false, head(flag, seven, -1)}, {"no slot alone", false, head(slots)}, {"far off", false, head(math.MinInt)},
		{"twice", false, head(octet, octet)}, {"twice in one", false, head(spare, spare)}, {"a slot of the one ahead", false, head(octet)}, {"of the metadata", false, head(port)}, {"of the metadata, declared", false, head(more)}, {"a param", false, head(byteParam)}, {"the last param", false, head(wordParam)}, {"another", true, head(spare)},
	}.ask(t)
}

func TestMeta(t *testing.T) { // P12.1
	meta := func(l ...int) func(c *api.Code) {
		return func(c *api.Code) { c.Meta = l }
	}
	fields := func(n int) func(c *api.Code) {
		return func(c *api.Code) { c.Meta = append([]int{port, out}, grown(c, n, 1)...) }
	}
	edits{
		{"none", false, meta()}, {"one", false, meta(port)}, {"two", true, meta(port, out)}, {"turned", true, meta(out, port)}, {"another", true, meta(word, out, port)},
		{"MaxFields and 2", true, fields(api.MaxFields)}, {"one more", false, fields(api.MaxFields + 1)}, {"one less", true, fields(api.MaxFields - 1)},
		{"the first one not 16 wide", false, meta(spare, out)}, {"the second one not 16 wide", false, meta(port, spare)}, {"the third one any", true, meta(port, out, bit)},
		{"no slot", false, meta(port, out, slots)}, {"below 0", false, meta(port, out, -1)}, {"the first one no slot", false, meta(-1, out)}, {"the second one no slot", false, meta(port, slots)},
		{"twice", false, meta(port, port)}, {"twice, behind", false, meta(port, out, great, great)}, {"a head's", false, meta(port, out, octet)}, {"a param", false, meta(port, wordParam)}, {"the last param", false, meta(port, out, byteParam)},
	}.ask(t)
	for _, w := range []int{1, 8, 15, 17, 128} {
		for _, at := range []int{port, out, more} {
			checks(t, fmt.Sprint("slot ", at, " of ", w), spoilt(func(c *api.Code) { c.Slots[at], c.Main, c.Tables[0] = w, nil, c.Tables[1] }), at == more)
		}
	}
}

func TestActs(t *testing.T) { // P12.1
	params := func(l ...int) func(c *api.Code) {
		return func(c *api.Code) { c.Acts[1].Params, c.Tables[1] = l, c.Tables[0] }
	}
	acts := func(n, fields int) func(c *api.Code) {
		return func(c *api.Code) {
			for range n {
				c.Acts = append(c.Acts, api.Act{Params: grown(c, fields, 1)})
			}
		}
	}
	edits{
		{"none", false, func(c *api.Code) { c.Acts = nil }}, // the tables ask for them
		{"none asked for", true, func(c *api.Code) { c.Acts, c.Tables, c.Main = nil, nil, nil }},
		{"MaxDecls", true, acts(api.MaxDecls-2, 0)}, {"one more", false, acts(api.MaxDecls-1, 0)}, {"MaxDecls, MaxFields each", true, acts(api.MaxDecls-2, 64)},
		{"MaxFields", true, acts(1, api.MaxFields)}, {"one more param", false, acts(1, api.MaxFields+1)},
		{"any widths", true, params(bit, long, great)}, {"no slot", false, params(bit, slots)}, {"below 0", false, params(-1)}, {"far off", false, params(math.MaxInt)},
		{"twice", false, params(bit, bit)}, {"of another act", false, params(byteParam)}, {"of the metadata", false, params(out)}, {"of a head", false, params(octet)}, {"of the last head", false, params(seven)},
		{"one name", true, func(c *api.Code) { c.Acts[0].Name = c.Acts[1].Name }},
	}.ask(t)
}

func TestArraysAndEmits(t *testing.T) { // P12.1
	array := func(kind api.DeclKind, w int) func(c *api.Code) {
		return func(c *api.Code) { c.Arrays = append(c.Arrays, api.Arr{Kind: kind, W: w}) }
	}
	count := func(n int) func(c *api.Code) {
		return func(c *api.Code) {
			c.Arrays = append(c.Arrays, list(n-arrays, api.Arr{Kind: api.DeCounter, W: 64})...)
		}
	}
	emits := func(l ...int) func(c *api.Code) {
		return func(c *api.Code) { c.Emits = l }
	}
	edits{
		{"MaxDecls", true, count(api.MaxDecls)}, {"one more", false, count(api.MaxDecls + 1)}, {"none", false, func(c *api.Code) { c.Arrays = nil }}, {"none asked for", true, func(c *api.Code) { c.Arrays, c.Main = nil, nil }},
		{"all heads", true, emits(0, 1)}, {"one", true, emits(1)}, {"none", true, emits()}, {"twice", false, emits(0, 0)}, {"twice, apart", false, emits(0, 1, 0)}, {"no head", false, emits(0, 2)}, {"below 0", false, emits(-1)}, {"far off", false, emits(math.MinInt)}, {"far off above", false, emits(math.MaxInt, 0)},
		{"the first one", false, func(c *api.Code) { c.Arrays[0].Kind, c.Main = api.DeTable, nil }},
	}.ask(t)
	for kind := range 256 {
		k := api.DeclKind(kind)
		for _, w := range []int{0, 1, 63, 64, 65, 128, 129, -1, math.MinInt, math.MaxInt} {
			ok := k == api.DeRegister && 1 <= w && w <= 128 || k == api.DeCounter && w == 64 || k == api.DeMeter && w == 64
			checks(t, fmt.Sprint("array of kind ", kind, ", width ", w), spoilt(array(k, w)), ok)
		}
	}
}

func TestNodes(t *testing.T) { // P12.1
	node := func(edit func(n *api.Node)) func(c *api.Code) {
		return func(c *api.Code) { edit(&c.States[1]) }
	}
	count := func(n int) func(c *api.Code) {
		return func(c *api.Code) {
			c.States = append(c.States, list(n-2, api.Node{Slot: -1, To: n - 1})...)
		}
	}
	heads := func(l ...int) func(c *api.Code) { return node(func(n *api.Node) { n.Heads = l }) }
	slot := func(s int, cases ...api.Jump) func(c *api.Code) {
		return node(func(n *api.Node) { n.Slot, n.Cases = s, cases })
	}
	// whose is a case of a slot of 8, but for what it is given.
	whose := func(value, mask api.Bits) func(c *api.Code) { return slot(spare, api.Jump{Value: value, Mask: mask}) }
	zero := number(8, 0)
	edits{
		{"none", true, func(c *api.Code) { c.States = nil }}, {"MaxParts", true, count(api.MaxParts)}, {"one more", false, count(api.MaxParts + 1)},
		{"no heads", true, heads()}, {"a head again and again", true, heads(list(1000, 1)...)}, {"no head", false, heads(0, 2)}, {"below 0", false, heads(-1)}, {"far off", false, heads(math.MaxInt)},
		{"no slot", true, slot(-1)}, {"no slot, an empty list of cases", true, node(func(n *api.Node) { n.Cases = []api.Jump{} })}, {"no slot, a case", false, slot(-1, api.Jump{Value: zero, Mask: zero})}, {"no slot, a case of no width", false, slot(-1, api.Jump{})},
		{"below -1", false, slot(-2)}, {"far below", false, slot(math.MinInt)}, {"above", false, slot(slots)}, {"far above", false, slot(math.MaxInt)}, {"any slot", true, slot(slots - 1)}, {"the first slot", true, slot(0)}, {"above, a case of no width", false, slot(slots, api.Jump{})},
		{"a case", true, whose(zero, zero)}, {"bits that the mask has not", true, whose(number(8, 255), zero)}, {"all bits", true, whose(number(8, 255), number(8, 255))},
		{"a value of 7", false, whose(number(7, 0), zero)}, {"of 9", false, whose(number(9, 0), zero)}, {"a mask of 7", false, whose(zero, number(7, 0))}, {"of 9", false, whose(zero, number(9, 0))}, {"both of 16", false, whose(number(16, 0), number(16, 0))}, {"no value", false, whose(api.Bits{}, zero)}, {"no mask", false, whose(zero, api.Bits{})},
		{"a value that may not be", false, whose(number(8, 256), zero)}, {"a mask that may not be", false, whose(zero, number(8, 256))}, {"a mask with a bit of Hi", false, whose(zero, api.Bits{W: 8, Hi: 1})},
		{"the last of several cases", false, slot(spare, api.Jump{Value: zero, Mask: zero}, api.Jump{Value: zero, Mask: zero}, api.Jump{Value: zero, Mask: number(16, 0)})},
		{"many cases", true, slot(spare, list(5000, api.Jump{Value: zero, Mask: zero, To: -1})...)},
		{"128 bits", true, slot(great, api.Jump{Value: api.Bits{W: 128, Hi: 1}, Mask: api.Bits{W: 128, Hi: math.MaxUint64, Lo: math.MaxUint64}})},
	}.ask(t)
	for to, ok := range map[int]bool{-3: false, -2: true, -1: true, 0: true, 1: true, 2: false, math.MaxInt: false, math.MinInt: false} {
		checks(t, fmt.Sprint("to ", to), spoilt(node(func(n *api.Node) { n.To = to })), ok)
		checks(t, fmt.Sprint("a case to ", to), spoilt(slot(spare, api.Jump{Value: zero, Mask: zero, To: to})), ok)
		checks(t, fmt.Sprint("the first node's case to ", to), spoilt(func(c *api.Code) { c.States[0].Cases[1].To = to }), ok)
		checks(t, fmt.Sprint("a lone node to ", to), spoilt(func(c *api.Code) { c.States = []api.Node{{Slot: -1, To: to}} }), ok && to < 1)
	}
}

func TestTables(t *testing.T) { // P12.1
	table := func(edit func(x *api.Table)) func(c *api.Code) {
		return func(c *api.Code) { edit(&c.Tables[1]) }
	}
	count := func(n int) func(c *api.Code) {
		return func(c *api.Code) { c.Tables = append(c.Tables, list(n-2, c.Tables[1])...) }
	}
	keys := func(l []int, kinds ...api.KeyKind) func(c *api.Code) {
		return table(func(x *api.Table) { x.Keys, x.Kinds = l, kinds })
	}
	alike := func(n int, kind api.KeyKind) func(c *api.Code) { return keys(list(n, spare), list(n, kind)...) }
	actions := func(by int, args []api.Bits, l ...int) func(c *api.Code) {
		return table(func(x *api.Table) { x.Default, x.Args, x.Actions = by, args, l })
	}
	args := func(l ...api.Bits) func(c *api.Code) { return actions(0, l, 0) }
	eight, sixteen := number(8, 255), number(16, 65535)
	both := []api.Bits{eight, sixteen}
	edits{
		{"MaxDecls", true, count(api.MaxDecls)}, {"one more", false, count(api.MaxDecls + 1)}, {"none", false, func(c *api.Code) { c.Tables = nil }}, {"none asked for", true, func(c *api.Code) { c.Tables, c.Main = nil, nil }}, {"one name", true, func(c *api.Code) { c.Tables[1].Name = "t" }},
		{"no keys", true, keys(nil)}, {"MaxFields", true, alike(api.MaxFields, api.KeExact)}, {"one more key", false, alike(api.MaxFields+1, api.KeExact)},
		{"fewer kinds", false, keys([]int{spare, spare}, api.KeExact)}, {"more kinds", false, keys([]int{spare}, api.KeExact, api.KeMask)}, {"kinds of no keys", false, keys(nil, api.KeRange)}, {"keys of no kinds", false, keys([]int{spare})}, {"too many kinds", false, keys(list(64, spare), list(65, api.KeMask)...)},
		{"any slot", true, keys([]int{0, slots - 1}, api.KeExact, api.KeExact)}, {"no slot", false, keys([]int{0, slots}, api.KeExact, api.KeExact)}, {"below 0", false, keys([]int{-1}, api.KeExact)}, {"far off", false, keys([]int{math.MaxInt}, api.KeMask)},
		{"a prefix", true, alike(1, api.KePrefix)}, {"two prefixes", false, alike(2, api.KePrefix)}, {"two prefixes, apart", false, keys(list(3, 0), api.KePrefix, api.KeExact, api.KePrefix)}, {"several masks", true, alike(3, api.KeMask)}, {"several ranges", true, alike(3, api.KeRange)},
		{"no actions", false, actions(0, nil)}, {"none, and no default", false, actions(-1, nil)}, {"all", true, actions(1, nil, 0, 1)}, {"turned", true, actions(1, nil, 1, 0)}, {"twice", false, actions(1, nil, 1, 1)}, {"twice, apart", false, actions(1, nil, 0, 1, 0)}, {"no act", false, actions(1, nil, 1, 2)}, {"below 0", false, actions(1, nil, 1, -1)}, {"far off", false, actions(1, nil, math.MinInt, 1)},
		{"a default of others", false, actions(0, both, 1)}, {"the other one", false, actions(1, nil, 0)}, {"a default that is no act", false, actions(2, nil, 1)}, {"no act at all", false, actions(2, nil, 2)}, {"below 0", false, actions(-1, nil, -1)}, {"far off", false, actions(math.MaxInt, nil, math.MaxInt)},
		{"args", true, args(both...)}, {"no args", false, args()}, {"one", false, args(eight)}, {"three", false, args(eight, sixteen, eight)}, {"turned args", false, args(sixteen, eight)}, {"the first of 7", false, args(number(7, 0), sixteen)}, {"the second of 17", false, args(eight, number(17, 0))}, {"args of no params", false, actions(1, both, 1)}, {"an empty list of args", true, actions(1, []api.Bits{}, 1)},
		{"one that may not be", false, args(number(8, 256), sixteen)}, {"the last that may not be", false, args(eight, api.Bits{W: 16, Hi: 1})}, {"of no width", false, args(api.Bits{}, sixteen)},
		{"the first table's", false, func(c *api.Code) { c.Tables[0].Size = 0 }},
	}.ask(t)
	for kind := range 256 {
		k := api.KeyKind(kind)
		ok := k == api.KeExact || k == api.KePrefix || k == api.KeMask || k == api.KeRange
		checks(t, fmt.Sprint("kind ", kind), spoilt(alike(1, k)), ok)
		checks(t, fmt.Sprint("kind ", kind, " behind"), spoilt(keys([]int{0, 0}, api.KeExact, k)), ok)
	}
	for size, ok := range map[int]bool{0: false, 1: true, 2: true, 4095: true, 4096: true, 4097: false, -1: false, math.MaxInt: false, math.MinInt: false} {
		checks(t, fmt.Sprint("size ", size), spoilt(table(func(x *api.Table) { x.Size = size })), ok)
	}
}

// TestInstructions: all together are at most MaxCode, wherever they stand.
func TestInstructions(t *testing.T) { // P12.1
	t.Parallel()
	move := api.Ins{Op: api.InMove}
	empty := func(c *api.Code) {
		for _, p := range places {
			p.put(c, nil)
		}
	}
	for _, p := range places {
		for n := range 3 {
			c := spoilt(func(c *api.Code) { empty(c); p.put(c, list(api.MaxCode-1+n, move)) })
			checks(t, fmt.Sprint(p.name, n), c, n < 2)
		}
	}
	each := api.MaxCode / len(places)
	for n := range 3 {
		c := spoilt(func(c *api.Code) {
			for i, p := range places {
				extra := 0
				if i == n {
					extra = api.MaxCode - each*len(places)
				}
				p.put(c, list(each+extra, move))
			}
		})
		checks(t, "spread over all", c, true)
		for _, p := range places {
			checks(t, "spread, and one more in "+p.name, withOneMore(c, p.put, move), false)
		}
	}
}

// withOneMore is code with one instruction more in a list, whichever that is.
func withOneMore(c api.Code, put func(c *api.Code, l []api.Ins), i api.Ins) api.Code {
	c = copied(c, 0)
	before := copied(c, 0)
	put(&c, nil)
	gone := instructions(before) - instructions(c)
	put(&c, list(gone+1, i))
	return c
}

func instructions(c api.Code) int {
	n := len(c.Main)
	for _, a := range c.Acts {
		n += len(a.Code)
	}
	for _, x := range c.Tables {
		n += len(x.Before)
	}
	for _, x := range c.States {
		n += len(x.Code)
	}
	return n
}
