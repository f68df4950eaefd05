package code

import (
	"slices"

	"pointsman/api"
	"pointsman/bits"
	"pointsman/sums"
)

// place is where instructions stand. What may stand in one place may stand in those named behind it, too.
type place int

const (
	inStraight place = iota // a table's Before, a node's Code
	inAct
	inMain
)

// part is a set of an instruction's parts beside its Op.
type part int

const (
	partTo part = 1 << iota
	partA
	partB
	partN
	partM
	partL
	partLit
	partBy
)

// instruction is one where it stands.
type instruction struct {
	api.Ins
	at, end int // its place, its list's length
}

// row is what an op's instructions have, and what is asked of that beside its slots being there.
type row struct {
	op    api.InsOp
	least place
	has   part
	holds func(i instruction) bool
}

func (j *judge) allRows() []row {
	return []row{
		{api.InLit, inStraight, partTo | partLit, func(i instruction) bool { return j.fits(i.Lit, i.To) }},
		{api.InMove, inStraight, partTo | partA, func(i instruction) bool { return j.alike(i.To, i.A) }},
		{api.InOp, inStraight, partTo | partBy | partA | partB | partN | partM, j.operation},
		{api.InHash, inStraight, partTo | partN | partL, func(i instruction) bool { return j.width(i.To) == sums.Width(i.N) && isFields(i) }},
		{api.InValid, inStraight, partTo | partN, func(i instruction) bool { return j.width(i.To) == 1 && j.isHead(i.N) }},
		{api.InMake, inAct, partN, func(i instruction) bool { return j.isHead(i.N) }},
		{api.InGone, inAct, partN, func(i instruction) bool { return j.isHead(i.N) }},
		{api.InCount, inAct, partN | partA, func(i instruction) bool { return j.isArray(i.N, api.DeCounter) }},
		{api.InRead, inAct, partTo | partN | partA, func(i instruction) bool { return j.isRegister(i.N, i.To) }},
		{api.InWrite, inAct, partN | partA | partB, func(i instruction) bool { return j.isRegister(i.N, i.B) }},
		{api.InMeter, inAct, partTo | partN | partA, func(i instruction) bool { return j.width(i.To) == 1 && j.isArray(i.N, api.DeMeter) }},
		{api.InRandom, inAct, partTo, always},
		{api.InDrop, inAct, 0, always},
		{api.InAgain, inAct, 0, always},
		{api.InRound, inAct, 0, always},
		{api.InDigest, inAct, partL, isFields},
		{api.InClone, inAct, partN, func(i instruction) bool { return within(i.N, api.MaxGroup) }},
		{api.InApply, inMain, partN, func(i instruction) bool { return within(i.N, len(j.Tables)) }},
		{api.InCall, inMain, partN | partL, j.call},
		{api.InJump, inAct, partN, isAhead},
		{api.InUnless, inAct, partA | partN, func(i instruction) bool { return j.width(i.A) == 1 && isAhead(i) }},
	}
}

func (j *judge) row(op api.InsOp) (row, bool) {
	for n := range len(j.rows) {
		if j.rows[n].op == op {
			return j.rows[n], true
		}
	}
	return row{}, false
}

func (j *judge) listMayBe(where place, l []api.Ins) bool {
	for at := range l {
		if !j.instructionMayBe(where, instruction{l[at], at, len(l)}) {
			return false
		}
	}
	return true
}

func (j *judge) instructionMayBe(where place, i instruction) bool {
	r, ok := j.row(i.Op)
	return ok && r.least <= where && parts(i.Ins)&^r.has == 0 && j.slotsThere(i.Ins) && r.holds(i)
}

// slotsThere asks about parts that a row does not name, too: they are 0, and there is a slot 0, as Meta has slots.
func (j *judge) slotsThere(i api.Ins) bool {
	return j.isSlot(i.To) && j.isSlot(i.A) && j.isSlot(i.B) && all(i.L, j.isSlot)
}

// parts are those that are not zero.
func parts(i api.Ins) part {
	var set part
	for _, p := range []struct {
		part  part
		there bool
	}{
		{partTo, i.To != 0}, {partA, i.A != 0}, {partB, i.B != 0}, {partN, i.N != 0}, {partM, i.M != 0},
		{partL, len(i.L) > 0}, {partLit, i.Lit != api.Bits{}}, {partBy, i.By != api.OpNone},
	} {
		if p.there {
			set |= p.part
		}
	}
	return set
}

// operation leaves to bits.Do which operations there are: what it answers hangs on the widths alone, not on the values.
func (j *judge) operation(i instruction) bool {
	if parts(i.Ins)&^asked(i.By) != 0 {
		return false
	}
	b, e := bits.Do(i.By, api.Bits{W: j.width(i.A)}, api.Bits{W: j.width(i.B)}, i.N, i.M)
	return e == api.OK && b.W == j.width(i.To)
}

// asked are the parts of an operation on numbers.
func asked(by api.Op) part {
	const each = partTo | partBy | partA
	switch by {
	case api.OpNot:
		return each
	case api.OpSlice:
		return each | partN | partM
	case api.OpCast:
		return each | partN
	}
	return each | partB
}

// always is for rows that say no more than what an instruction has.
func always(instruction) bool { return true }

func isFields(i instruction) bool { return from(1, len(i.L), api.MaxFields) }

// isAhead: jumps lead ahead alone, so every list ends.
func isAhead(i instruction) bool { return from(i.at+1, i.N, i.end) }

func (j *judge) isArray(n int, kind api.DeclKind) bool {
	return within(n, len(j.Arrays)) && j.Arrays[n].Kind == kind
}

// isRegister asks for one whose numbers are as wide as the slot.
func (j *judge) isRegister(n, slot int) bool {
	return j.isArray(n, api.DeRegister) && j.Arrays[n].W == j.width(slot)
}

func (j *judge) call(i instruction) bool {
	return within(i.N, len(j.Acts)) && slices.EqualFunc(i.L, j.Acts[i.N].Params, j.alike)
}
