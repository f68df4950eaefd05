package worlds

import (
	"pointsman/api"
	"pointsman/cells"
)

// Cell is one of an array that may be. What is done to it, is done in the array.
type Cell struct {
	array *api.Array
	at    int
}

// Find: the cell of a number, if there is one.
func Find(a *api.Array, i api.Bits) (Cell, bool) {
	if i.Hi != 0 || i.Lo >= uint64(len(a.Cells)) {
		return Cell{}, false
	}
	return Cell{a, int(i.Lo)}, true
}

// At: its place.
func (c Cell) At() int { return c.at }

// Count: of a counter.
func (c Cell) Count() {
	a, _ := cells.Count(c.alone(), first())
	c.keep(a)
}

// Read: of a register; Write: likewise.
func (c Cell) Read() api.Bits {
	v, _ := cells.Read(c.alone(), first())
	return v
}

// Write: likewise.
func (c Cell) Write(v api.Bits) {
	a, _ := cells.Write(c.alone(), first(), v)
	c.keep(a)
}

// Meter: of a meter, at a tick.
func (c Cell) Meter(now int) api.Bits {
	a, v, _ := cells.Meter(c.alone(), first(), now)
	c.keep(a)
	return v
}

// alone is the array with this cell only. What package cells does to an array, it does to a copy: one with all cells would be copied for each statement.
func (c Cell) alone() api.Array {
	a := *c.array
	a.Cells = a.Cells[c.at : c.at+1]
	if len(a.Last) > 0 {
		a.Last = a.Last[c.at : c.at+1]
	}
	return a
}

// first is the place of a cell that is alone.
func first() api.Bits { return api.Bits{W: 1} }

// keep takes the cell over from an array in which it is alone; from none nothing.
func (c Cell) keep(a api.Array) {
	copy(c.array.Cells[c.at:], a.Cells)
	if len(a.Last) > 0 {
		c.array.Last[c.at] = a.Last[0]
	}
}
