package print

import "pointsman/api"

func (w *writer) stmtLayouts() map[api.StmtKind]layout[api.Stmt] {
	return map[api.StmtKind]layout[api.Stmt]{
		api.StSet:    {"", w.set, ";\n"},
		api.StIf:     {"if ", w.branch, "}\n"},
		api.StApply:  {"apply ", w.ofName, ";\n"},
		api.StCall:   {"", w.call, ";\n"},
		api.StMake:   {"make ", w.ofName, ";\n"},
		api.StGone:   {"gone ", w.ofName, ";\n"},
		api.StCount:  {"count ", w.count, ";\n"},
		api.StRead:   {"read ", w.fromCell, ";\n"},
		api.StWrite:  {"write ", w.toCell, ";\n"},
		api.StMeter:  {"meter ", w.fromCell, ";\n"},
		api.StRandom: {"random ", w.ofField, ";\n"},
		api.StDrop:   {"drop", w.bare, ";\n"},
		api.StDigest: {"digest ", w.digest, ";\n"},
		api.StClone:  {"clone ", w.clone, ";\n"},
		api.StAgain:  {"again", w.bare, ";\n"},
		api.StRound:  {"round", w.bare, ";\n"},
	}
}

func (w *writer) block(l []api.Stmt) { partRow(w, l, w.stmt, "") }

func (w *writer) stmt(s api.Stmt) {
	byLayout(w, w.stmts, s.Kind, &s)
	w.must(nothingInStmt(&s))
}

func nothingInStmt(s *api.Stmt) bool {
	return s.Name == "" && s.Field == "" && s.Array == "" && s.N == 0 && len(s.Args) == 0 && len(s.Body) == 0 && len(s.Else) == 0
}

func (w *writer) set(s *api.Stmt) {
	w.ofField(s)
	w.put(" = ")
	w.args(1, take(&s.Args), w.expr, "")
}

func (w *writer) branch(s *api.Stmt) {
	w.args(1, take(&s.Args), w.expr, "")
	w.put(" {\n")
	w.block(take(&s.Body))
	if len(s.Else) > 0 {
		w.put("} else {\n")
		w.block(take(&s.Else))
	}
}

func (w *writer) call(s *api.Stmt) {
	w.name(take(&s.Name))
	w.put("(")
	partRow(w, take(&s.Args), w.expr, ", ")
	w.put(")")
}

func (w *writer) ofName(s *api.Stmt) { w.name(take(&s.Name)) }

func (w *writer) ofField(s *api.Stmt) { w.fieldOf(take(&s.Name), take(&s.Field)) }

func (w *writer) count(s *api.Stmt) { w.cell(take(&s.Name), s) }

func (w *writer) fromCell(s *api.Stmt) {
	w.ofField(s)
	w.put(" = ")
	w.cell(take(&s.Array), s)
}

// cell is which one of an array is meant.
func (w *writer) cell(array string, s *api.Stmt) {
	w.name(array)
	w.put("[")
	w.args(1, take(&s.Args), w.expr, "")
	w.put("]")
}

func (w *writer) toCell(s *api.Stmt) {
	w.name(take(&s.Array))
	w.put("[")
	w.args(2, take(&s.Args), w.expr, "] = ")
}

// bare is of a statement that has nothing beside its key word.
func (w *writer) bare(*api.Stmt) {}

func (w *writer) digest(s *api.Stmt) { w.someArgs(take(&s.Args)) }

func (w *writer) clone(s *api.Stmt) { w.whole(take(&s.N)) }
