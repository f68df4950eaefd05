package worlds

import (
	"pointsman/api"
	"pointsman/match"
	"pointsman/sums"
)

// metaName is what the metadata's fields are told with. As a key word it is the name of no header.
const metaName = "meta"

// fieldName is a field's name with its header's, or with meta.
type fieldName struct{ owner, field string }

// owner is what a program says of its world.
type owner struct {
	program api.Program
	actions map[string]*api.Decl
	fields  map[fieldName]int // how wide
}

func ownerOf(p api.Program) *owner {
	o := &owner{program: p, actions: map[string]*api.Decl{}, fields: map[fieldName]int{}}
	o.addFields(metaName, []api.Field{{Name: "port", W: 16}, {Name: "out", W: 16}})
	for i := range p {
		d := &p[i]
		switch d.Kind {
		case api.DeHeader:
			o.addFields(d.Name, d.Fields)
		case api.DeMeta:
			o.addFields(metaName, d.Fields)
		case api.DeAction:
			o.actions[d.Name] = d
		}
	}
	return o
}

func (o *owner) addFields(name string, l []api.Field) {
	for _, f := range l {
		o.fields[fieldName{name, f.Name}] = f.W
	}
}

// tables is asked when the whole program is noted: what a table names may stand behind it.
func (o *owner) tables() []Table {
	var l []Table
	for i := range o.program {
		if d := &o.program[i]; d.Kind == api.DeTable {
			l = append(l, Table{Table: o.keys(d), Name: d.Name, own: d.Actions, actions: o.actions})
		}
	}
	return l
}

func (o *owner) keys(d *api.Decl) match.Table {
	t := match.Table{Size: d.N}
	for i := range d.Keys {
		t.Kinds = append(t.Kinds, d.Keys[i].Kind)
		t.Widths = append(t.Widths, o.width(&d.Keys[i].Expr))
	}
	return t
}

// width is how wide a key's expression is: types.Width would go through the whole program for each of them.
func (o *owner) width(e *api.Expr) int {
	switch e.Op {
	case api.OpLit:
		return e.Lit.W
	case api.OpField:
		return o.fields[fieldName{e.Name, e.Field}]
	case api.OpSlice:
		return e.N - e.M + 1
	case api.OpCast:
		return e.N
	case api.OpHash:
		return sums.Width(sums.Find(e.Name))
	case api.OpCat:
		return o.width(&e.Args[0]) + o.width(&e.Args[1])
	case api.OpValid, api.OpEq, api.OpNe, api.OpLt, api.OpLe:
		return 1
	}
	return o.width(&e.Args[0])
}
