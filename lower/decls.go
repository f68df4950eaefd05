package lower

import (
	"slices"

	"pointsman/api"
)

// Where a node leads that leads to no other one.
const (
	toAccept = -1
	toReject = -2
)

// fill makes the code of a declaration, whose place there is already.
func (m *maker) fill(d *api.Decl) {
	switch d.Kind {
	case api.DeParser:
		m.parser(d.States)
	case api.DeAction:
		m.code.Acts[m.places[d.Name]].Code = m.body(d.Name, d.Body)
	case api.DeTable:
		m.table(d, &m.code.Tables[m.places[d.Name]])
	case api.DeControl:
		m.code.Main = m.body("", d.Body)
	case api.DeDeparser:
		m.code.Emits = m.placesOf(d.Emits)
	}
}

// body is the code of statements, of an action's or of the control's, which has no params.
func (m *maker) body(action string, l []api.Stmt) []api.Ins {
	b := &block{maker: m, action: action}
	b.stmts(l)
	return b.list
}

func (m *maker) table(d *api.Decl, t *api.Table) {
	before := &block{maker: m}
	for i := range d.Keys {
		t.Keys = append(t.Keys, before.expr(&d.Keys[i].Expr))
		t.Kinds = append(t.Kinds, d.Keys[i].Kind)
	}
	t.Before = before.list
	t.Actions = m.placesOf(d.Actions)
	t.Default = m.places[d.Default]
	t.Args = slices.Clone(d.Args)
}

// parser lays the state start ahead of the others: code has no names of states, so its first node is where a pass begins.
func (m *maker) parser(states []api.State) {
	at := slices.IndexFunc(states, func(s api.State) bool { return s.Name == "start" })
	order := slices.Concat(states[at:at+1], states[:at], states[at+1:])
	targets := map[string]int{"accept": toAccept, "reject": toReject}
	for i, s := range order {
		targets[s.Name] = i
	}
	for _, s := range order {
		m.code.States = append(m.code.States, m.node(s, targets))
	}
}

func (m *maker) node(s api.State, targets map[string]int) api.Node {
	n := api.Node{Heads: m.placesOf(s.Headers), Slot: -1, To: targets[s.To]}
	code := &block{maker: m}
	for i := range s.Select {
		n.Slot = code.expr(&s.Select[i])
	}
	n.Code = code.list
	for _, c := range s.Cases {
		n.Cases = append(n.Cases, api.Jump{Value: c.Value, Mask: c.Mask, To: targets[c.To]})
	}
	return n
}
