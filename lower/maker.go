package lower

import "pointsman/api"

// meta is what the metadata's fields are told with. As a key word it is the name of nothing that is declared.
const meta = "meta"

// cellWidth is how wide the numbers of a counter and of a meter are.
const cellWidth = 64

// name is a field's with its header's or with meta, or a param's with its action's. No two that are declared have one name, of whatever kind they are.
type name struct{ owner, field string }

// maker makes the code of a program that may be.
type maker struct {
	code   api.Code
	slots  map[name]int
	places map[string]int // of what is declared, in the code's list of its kind
}

// codeOf asks for a program that may be. What it declares is noted ahead of all else, as it may be named ahead of where it stands.
func codeOf(p api.Program) api.Code {
	m := &maker{slots: map[name]int{}, places: map[string]int{}}
	m.code.Meta = m.fieldSlots(meta, []api.Field{{Name: "port", W: 16}, {Name: "out", W: 16}})
	for i := range p {
		m.declare(&p[i])
	}
	for i := range p {
		m.fill(&p[i])
	}
	return m.code
}

func (m *maker) declare(d *api.Decl) {
	c := &m.code
	switch d.Kind {
	case api.DeHeader:
		c.Heads = placed(m, d, c.Heads, api.Head{Slots: m.fieldSlots(d.Name, d.Fields)})
	case api.DeMeta:
		c.Meta = append(c.Meta, m.fieldSlots(meta, d.Fields)...)
	case api.DeRegister:
		c.Arrays = placed(m, d, c.Arrays, api.Arr{Name: d.Name, Kind: d.Kind, W: d.W})
	case api.DeCounter, api.DeMeter:
		c.Arrays = placed(m, d, c.Arrays, api.Arr{Name: d.Name, Kind: d.Kind, W: cellWidth})
	case api.DeAction:
		c.Acts = placed(m, d, c.Acts, api.Act{Name: d.Name, Params: m.fieldSlots(d.Name, d.Fields)})
	case api.DeTable:
		c.Tables = placed(m, d, c.Tables, api.Table{Name: d.Name, Size: d.N})
	}
}

// placed lays what a declaration comes to behind the others of its kind, and notes where.
func placed[T any](m *maker, d *api.Decl, l []T, x T) []T {
	m.places[d.Name] = len(l)
	return append(l, x)
}

// slot is a new one.
func (m *maker) slot(width int) int {
	m.code.Slots = append(m.code.Slots, width)
	return len(m.code.Slots) - 1
}

// fieldSlots are new ones of fields, or of params.
func (m *maker) fieldSlots(owner string, fields []api.Field) []int {
	var l []int
	for _, f := range fields {
		s := m.slot(f.W)
		m.slots[name{owner, f.Name}] = s
		l = append(l, s)
	}
	return l
}

// placesOf are those of what is declared by these names.
func (m *maker) placesOf(names []string) []int {
	var l []int
	for _, n := range names {
		l = append(l, m.places[n])
	}
	return l
}
