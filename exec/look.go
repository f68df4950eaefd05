package exec

import (
	"math"
	word "math/bits"

	"pointsman/api"
	"pointsman/bits"
	"pointsman/packet"
)

// wordBits is how many bits a number's Lo has.
const wordBits = 64

// look goes back along a pass's trail. Where a slot holds other numbers that have the same bits where it looks, all that comes behind goes the same way.
type look struct {
	code  *api.Code
	slots []api.Bits // of each slot, at that place of the trail: where it looks
	mask  []byte     // likewise of the packet
}

// at says that bits of what a slot holds are looked at. It may be handed some that the slot has not.
func (k *look) at(slot int, b api.Bits) {
	s := &k.slots[slot]
	cut, _ := bits.Of(s.W, b.Hi, b.Lo)
	*s = joined(*s, cut)
}

func (k *look) all(slots ...int) {
	for _, s := range slots {
		k.at(s, lowest(api.MaxWidth))
	}
}

// filled says that a slot is filled at that place, so that nothing behind it hangs on what it held ahead. It answers the bits of the new number that are looked at.
func (k *look) filled(slot int) api.Bits {
	b := k.slots[slot]
	k.slots[slot] = api.Bits{W: b.W}
	return b
}

// taken: the fields of a header are the bits from a place of the packet on.
func (k *look) taken(head, from int) {
	var l []api.Bits
	for _, s := range k.code.Heads[head].Slots {
		l = append(l, k.filled(s))
	}
	b, _ := packet.Put(l)
	// Headers are whole bytes, and nothing but headers is taken, each byte once.
	copy(k.mask[from/byteBits:], b)
}

// applied: a table's keys were asked, and then an action's params were numbers of the table.
func (k *look) applied(t *api.Table, l []api.Entry, a *api.Act) {
	for _, s := range a.Params {
		k.filled(s)
	}
	for n, s := range t.Keys {
		for _, e := range l {
			k.at(s, matched(t.Kinds[n], e.Matches[n], k.code.Slots[s]))
		}
	}
}

// matched are the bits of a key, so wide, that a match holds against its own.
func matched(kind api.KeyKind, m api.Match, w int) api.Bits {
	switch kind {
	case api.KePrefix:
		behind := lowest(w - m.Len)
		return api.Bits{Hi: ^behind.Hi, Lo: ^behind.Lo}
	case api.KeMask:
		return m.Mask
	}
	return lowest(w)
}

// passed is for instructions that fill no slot, and whose way on hangs on none.
func (k *look) passed(*api.Ins) {}

// made is for numbers that are the same for all that came the same way.
func (k *look) made(i *api.Ins) { k.filled(i.To) }

func (k *look) moved(i *api.Ins) { k.at(i.A, k.filled(i.To)) }

func (k *look) asked(i *api.Ins) { k.all(i.A) }

// found looks at where the cell was looked for: at another place there might be one. (A pass that found one is not fixed, whatever it looked at.)
func (k *look) found(i *api.Ins) {
	k.filled(i.To)
	k.all(i.A)
}

func (k *look) cleared(i *api.Ins) {
	for _, s := range k.code.Heads[i.N].Slots {
		k.filled(s)
	}
}

func (k *look) summed(i *api.Ins) {
	if !isNone(k.filled(i.To)) {
		k.all(i.L...)
	}
}

// called lets go of all params ahead of looking at the args: a param may be another's arg.
func (k *look) called(i *api.Ins) {
	var l []api.Bits
	for _, s := range k.code.Acts[i.N].Params {
		l = append(l, k.filled(s))
	}
	for n, b := range l {
		k.at(i.L[n], b)
	}
}

// reckoned looks at those bits of an operation's numbers on which the looked at bits of what it comes to hang.
func (k *look) reckoned(i *api.Ins) {
	b := k.filled(i.To)
	if isNone(b) {
		return
	}
	switch i.By {
	case api.OpNot, api.OpCast:
		k.at(i.A, b)
	case api.OpAnd, api.OpOr, api.OpXor, api.OpBoth, api.OpAny:
		k.at(i.A, b)
		k.at(i.B, b)
	case api.OpAdd, api.OpSub, api.OpMul:
		// What is carried comes from below alone.
		k.at(i.A, lowest(length(b)))
		k.at(i.B, lowest(length(b)))
	case api.OpSlice:
		k.at(i.A, shifted(api.OpShl, b, i.M))
	case api.OpCat:
		k.at(i.A, shifted(api.OpShr, b, k.code.Slots[i.B]))
		k.at(i.B, b)
	default:
		k.all(i.A, i.B)
	}
}

// lowest has the lowest n bits; none, if n is 0.
func lowest(n int) api.Bits {
	b, _ := bits.Of(n, math.MaxUint64, math.MaxUint64)
	return b
}

// shifted is a number's bits, among as many as a number may have, moved up or down.
func shifted(op api.Op, b api.Bits, n int) api.Bits {
	b.W = api.MaxWidth
	b, _ = bits.Do(op, b, api.Bits{W: wordBits, Lo: uint64(n)}, 0, 0)
	return b
}

// length is the place behind a number's highest bit.
func length(b api.Bits) int {
	if b.Hi != 0 {
		return wordBits + word.Len64(b.Hi)
	}
	return word.Len64(b.Lo)
}

func isNone(b api.Bits) bool { return b.Hi == 0 && b.Lo == 0 }

// joined has the bits of both, and is as wide as the first.
func joined(a, b api.Bits) api.Bits { return api.Bits{W: a.W, Hi: a.Hi | b.Hi, Lo: a.Lo | b.Lo} }
