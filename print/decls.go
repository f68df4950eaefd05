package print

import "pointsman/api"

func (w *writer) declLayouts() map[api.DeclKind]layout[api.Decl] {
	return map[api.DeclKind]layout[api.Decl]{
		api.DeHeader:   {"header ", w.header, "}\n"},
		api.DeMeta:     {"meta {\n", w.fields, "}\n"},
		api.DeRegister: {"register ", w.register, ";\n"},
		api.DeCounter:  {"counter ", w.counter, ";\n"},
		api.DeMeter:    {"meter ", w.meter, ";\n"},
		api.DeParser:   {"parser {\n", w.parser, "}\n"},
		api.DeAction:   {"action ", w.action, "}\n"},
		api.DeTable:    {"table ", w.table, "}\n"},
		api.DeControl:  {"control {\n", w.body, "}\n"},
		api.DeDeparser: {"deparser {\n", w.deparser, "}\n"},
	}
}

func (w *writer) decl(d api.Decl) {
	byLayout(w, w.decls, d.Kind, &d)
	w.must(nothingInDecl(&d))
}

func nothingInDecl(d *api.Decl) bool {
	numbers := d.W == 0 && d.N == 0 && d.Rate == 0 && d.Burst == 0
	names := d.Name == "" && d.Default == "" && len(d.Actions) == 0 && len(d.Emits) == 0
	return numbers && names && len(d.Fields) == 0 && len(d.States) == 0 && len(d.Keys) == 0 && len(d.Args) == 0 && len(d.Body) == 0
}

func (w *writer) header(d *api.Decl) {
	w.name(take(&d.Name))
	w.put(" {\n")
	w.fields(d)
}

func (w *writer) fields(d *api.Decl) { partRow(w, take(&d.Fields), w.fieldLine, "") }

func (w *writer) fieldLine(f api.Field) {
	w.field(f)
	w.put(";\n")
}

func (w *writer) field(f api.Field) {
	w.name(f.Name)
	w.put(" ")
	w.whole(f.W)
}

func (w *writer) register(d *api.Decl) { w.nameAndNumbers(take(&d.Name), take(&d.W), take(&d.N)) }

func (w *writer) counter(d *api.Decl) { w.nameAndNumbers(take(&d.Name), take(&d.N)) }

func (w *writer) meter(d *api.Decl) {
	w.nameAndNumbers(take(&d.Name), take(&d.N), take(&d.Rate), take(&d.Burst))
}

func (w *writer) nameAndNumbers(name string, numbers ...int) {
	w.name(name)
	w.put(" ")
	row(w, numbers, w.whole, " ")
}

func (w *writer) parser(d *api.Decl) { partRow(w, take(&d.States), w.state, "") }

func (w *writer) state(s api.State) {
	w.name(s.Name)
	w.put(" {\n")
	row(w, s.Headers, w.taken, "")
	if len(s.Select) > 0 {
		w.selectOf(s)
	} else {
		w.must(len(s.Cases) == 0)
		w.put("go ")
		w.nameLine(s.To)
	}
	w.put("}\n")
}

func (w *writer) taken(header string) {
	w.put("take ")
	w.nameLine(header)
}

func (w *writer) nameLine(name string) {
	w.name(name)
	w.put(";\n")
}

func (w *writer) selectOf(s api.State) {
	w.put("select ")
	w.args(1, s.Select, w.expr, "")
	w.put(" {\n")
	partRow(w, s.Cases, w.caseOf, "")
	w.put("else ")
	w.nameLine(s.To)
	w.put("}\n")
}

func (w *writer) caseOf(c api.Case) {
	w.lit(c.Value)
	// A mask with all bits set is told by none.
	if c.Mask != allSet(c.Value.W) {
		w.put(" & ")
		w.lit(c.Mask)
	}
	w.put(": ")
	w.nameLine(c.To)
}

func (w *writer) action(d *api.Decl) {
	w.name(take(&d.Name))
	w.put("(")
	partRow(w, take(&d.Fields), w.field, ", ")
	w.put(") {\n")
	w.body(d)
}

func (w *writer) table(d *api.Decl) {
	w.name(take(&d.Name))
	w.put(" {\nkey {\n")
	// A key itself is no part, but its expression is one.
	partRow(w, take(&d.Keys), w.key, "")
	w.put("}\nactions ")
	w.must(len(d.Actions) > 0)
	row(w, take(&d.Actions), w.name, " ")
	w.put(";\ndefault ")
	w.name(take(&d.Default))
	w.put("(")
	row(w, take(&d.Args), w.lit, ", ")
	w.put(");\nsize ")
	w.whole(take(&d.N))
	w.put(";\n")
}

func (w *writer) key(k api.Key) {
	w.expr(k.Expr)
	word := kindWord(k.Kind)
	w.must(word != "")
	w.put(" ", word, ";\n")
}

func kindWord(k api.KeyKind) string {
	switch k {
	case api.KeExact:
		return "exact"
	case api.KePrefix:
		return "prefix"
	case api.KeMask:
		return "mask"
	case api.KeRange:
		return "range"
	}
	return ""
}

func (w *writer) body(d *api.Decl) { w.block(take(&d.Body)) }

func (w *writer) deparser(d *api.Decl) { row(w, take(&d.Emits), w.nameLine, "") }
