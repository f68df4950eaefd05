package source

import "pointsman/api"

// cell is one of an array of the pass's world.
type cell struct {
	array *api.Array
	at    int
}

// find is the cell at the place that an expression tells, if there is one.
func (x *pass) find(array string, place *api.Expr) (cell, bool) {
	a, i := &x.world.Arrays[x.places[array]], x.value(place)
	if i.Hi != 0 || i.Lo >= uint64(len(a.Cells)) {
		return cell{}, false
	}
	return cell{a, int(i.Lo)}, true
}

// alone is the array with this cell only. What package cells does to an array, it does to a copy: one with all cells would be copied for each statement.
func (c cell) alone() api.Array {
	a := *c.array
	a.Cells = a.Cells[c.at : c.at+1]
	if len(a.Last) > 0 {
		a.Last = a.Last[c.at : c.at+1]
	}
	return a
}

// first is the place of a cell that is alone.
func first() api.Bits { return api.Bits{W: 1} }

// keep takes the cell over from an array in which it is alone.
func (c cell) keep(a api.Array) {
	c.array.Cells[c.at] = a.Cells[0]
	if len(a.Last) > 0 {
		c.array.Last[c.at] = a.Last[0]
	}
}
