package code

import (
	"slices"

	"pointsman/api"
	"pointsman/bits"
)

// Widths that the chapter names.
const (
	byteWidth = 8
	portWidth = 16 // of the metadata's first two slots
	cellWidth = 64 // of counters and meters
)

// ownMeta is how many slots the metadata has whatever a program declares.
const ownMeta = 2

// noSlot is the Slot of a node that looks at none.
const noSlot = -1

// reject is the least number of where a node leads; the nodes' own begin behind that of accept, -1.
const reject = -2

func widthMayBe(w int) bool { return from(1, w, api.MaxWidth) }

func (j *judge) isSlot(n int) bool { return within(n, len(j.Slots)) }

func (j *judge) isHead(n int) bool { return within(n, len(j.Heads)) }

func (j *judge) isTarget(n int) bool { return from(reject, n, len(j.States)-1) }

// width is 0, which no width may be, where there is no such slot.
func (j *judge) width(slot int) int {
	if !j.isSlot(slot) {
		return 0
	}
	return j.Slots[slot]
}

func (j *judge) alike(a, b int) bool { return j.width(a) == j.width(b) }

// fits asks for a number that the slot can hold.
func (j *judge) fits(b api.Bits, slot int) bool {
	return bits.Check(b) && b.W == j.width(slot)
}

// owners asks about all that has slots of its own.
func (j *judge) owners() bool {
	lists := [][]int{j.Meta}
	for _, h := range j.Heads {
		lists = append(lists, h.Slots)
	}
	for _, a := range j.Acts {
		lists = append(lists, a.Params)
	}
	return unlike(len(j.Slots), lists...) && j.metaMayBe() && all(j.Heads, j.headMayBe)
}

func (j *judge) metaMayBe() bool {
	return from(ownMeta, len(j.Meta), api.MaxFields+ownMeta) &&
		all(j.Meta[:ownMeta], func(slot int) bool { return j.width(slot) == portWidth })
}

func (j *judge) headMayBe(h api.Head) bool {
	width := 0
	for _, s := range h.Slots {
		width += j.width(s)
	}
	return from(1, len(h.Slots), api.MaxFields) && width%byteWidth == 0
}

func (j *judge) actMayBe(a api.Act) bool {
	return len(a.Params) <= api.MaxFields && j.listMayBe(inAct, a.Code)
}

func arrayMayBe(a api.Arr) bool {
	switch a.Kind {
	case api.DeRegister:
		return widthMayBe(a.W)
	case api.DeCounter, api.DeMeter:
		return a.W == cellWidth
	}
	return false
}

func (j *judge) nodeMayBe(n api.Node) bool {
	return all(n.Heads, j.isHead) && j.listMayBe(inStraight, n.Code) && j.casesMayBe(n) && j.isTarget(n.To)
}

func (j *judge) casesMayBe(n api.Node) bool {
	if n.Slot == noSlot {
		return len(n.Cases) == 0
	}
	return j.isSlot(n.Slot) && all(n.Cases, func(c api.Jump) bool {
		return j.fits(c.Value, n.Slot) && j.fits(c.Mask, n.Slot) && j.isTarget(c.To)
	})
}

func (j *judge) tableMayBe(t api.Table) bool {
	return j.keysMayBe(t) && j.actionsMayBe(t) && from(1, t.Size, api.MaxCells) && j.listMayBe(inStraight, t.Before)
}

func (j *judge) keysMayBe(t api.Table) bool {
	prefixes := 0
	for _, k := range t.Kinds {
		if k == api.KePrefix {
			prefixes++
		}
	}
	return len(t.Keys) <= api.MaxFields && len(t.Kinds) == len(t.Keys) && all(t.Keys, j.isSlot) && all(t.Kinds, kindMayBe) && prefixes <= 1
}

func kindMayBe(k api.KeyKind) bool { return api.KeExact <= k && k <= api.KeRange }

// actionsMayBe needs no question whether there is one: Default is.
func (j *judge) actionsMayBe(t api.Table) bool {
	return unlike(len(j.Acts), t.Actions) && slices.Contains(t.Actions, t.Default) &&
		slices.EqualFunc(t.Args, j.Acts[t.Default].Params, j.fits)
}
