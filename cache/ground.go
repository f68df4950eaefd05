package cache

import (
	"iter"
	"slices"
)

// ground is what passes hang on beside packets, ports and cells: the rows, the program, its code.
type ground struct{ told []byte }

func groundOf(a *asked) *ground { return &ground{slices.Collect(a.told())} }

// is: does a call ask on the same ground? It goes no further than to what is not the same, so that it ends even where a program has no end.
func (g *ground) is(a *asked) bool {
	at := 0
	for b := range a.told() {
		if at == len(g.told) || b != g.told[at] {
			return false
		}
		at++
	}
	return at == len(g.told)
}

// told tells the ground byte by byte, no two that are not the same alike: lists and texts have their lengths ahead, and so none is the beginning of another one. Rows are first, as they change most.
func (a *asked) told() iter.Seq[byte] {
	return func(yield func(b byte) bool) {
		t := teller{yield}
		_ = list(t, a.world.Tables, t.rows) && list(t, a.program, t.decl) && t.code(&a.code)
	}
}
