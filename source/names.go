package source

import "pointsman/api"

// metaName is what the metadata's fields are told with. As a key word it is the name of no header.
const metaName = "meta"

// names are what the names of a program mean. The program must be one that may be.
type names struct {
	decls    map[string]*api.Decl
	places   map[string]int        // of tables among the world's, of arrays among its arrays
	states   map[string]*api.State // none: there is no parser
	meta     []api.Field
	control  []api.Stmt
	deparser []string
}

func namesOf(p api.Program) *names {
	n := &names{decls: map[string]*api.Decl{}, places: map[string]int{}, states: map[string]*api.State{}, meta: []api.Field{{Name: "port", W: 16}, {Name: "out", W: 16}}}
	tables, arrays := 0, 0
	for i := range p {
		d := &p[i]
		switch d.Kind {
		case api.DeRegister, api.DeCounter, api.DeMeter:
			n.places[d.Name] = arrays
			arrays++
		case api.DeTable:
			n.places[d.Name] = tables
			tables++
		default:
			n.addPart(d)
		}
		// Those that have no name come to be the empty one's, which nothing asks for.
		n.decls[d.Name] = d
	}
	return n
}

// addPart notes a declaration of which there is one at most.
func (n *names) addPart(d *api.Decl) {
	switch d.Kind {
	case api.DeMeta:
		n.meta = append(n.meta, d.Fields...)
	case api.DeParser:
		for i := range d.States {
			n.states[d.States[i].Name] = &d.States[i]
		}
	case api.DeControl:
		n.control = d.Body
	case api.DeDeparser:
		n.deparser = d.Emits
	}
}
