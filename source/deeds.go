package source

import (
	"pointsman/api"
	"pointsman/cells"
	"pointsman/match"
	"pointsman/worlds"
)

// lastKind is the last one of the kinds of statements.
const lastKind = api.StRound

// deed is what a statement does to a pass.
type deed func(x *pass, s *api.Stmt)

// deeds are what statements do, by their kinds.
func deeds() [lastKind + 1]deed {
	return [lastKind + 1]deed{
		api.StSet:    (*pass).set,
		api.StIf:     (*pass).choose,
		api.StApply:  (*pass).apply,
		api.StCall:   (*pass).call,
		api.StMake:   (*pass).make,
		api.StGone:   (*pass).gone,
		api.StCount:  (*pass).count,
		api.StRead:   (*pass).read,
		api.StWrite:  (*pass).write,
		api.StMeter:  (*pass).meter,
		api.StRandom: (*pass).random,
		api.StDrop:   (*pass).drop,
		api.StDigest: (*pass).digest,
		api.StClone:  (*pass).clone,
		api.StAgain:  (*pass).again,
		api.StRound:  (*pass).round,
	}
}

func (x *pass) do(l []api.Stmt) {
	for i := range l {
		x.deeds[l[i].Kind](x, &l[i])
	}
}

func (x *pass) tell(e api.Effect) { x.effects = append(x.effects, e) }

// setField sets the field that a statement names, if its header is there.
func (x *pass) setField(s *api.Stmt, v api.Bits) {
	if h := x.headers[s.Name]; h.there {
		h.fields[s.Field] = v
	}
}

// widthOf is how wide the field is that a statement names.
func (x *pass) widthOf(s *api.Stmt) int { return x.headers[s.Name].fields[s.Field].W }

func (x *pass) set(s *api.Stmt) { x.setField(s, x.value(&s.Args[0])) }

func (x *pass) choose(s *api.Stmt) {
	if x.value(&s.Args[0]) == bit(true) {
		x.do(s.Body)
	} else {
		x.do(s.Else)
	}
}

func (x *pass) apply(s *api.Stmt) {
	d, rows := x.decls[s.Name], &x.world.Tables[x.places[s.Name]]
	keys := x.keys(d)
	at := match.Find(tableOf(d, keys), rows.Entries, keys)
	x.tell(api.Effect{Kind: api.EfHit, Table: s.Name, Entry: at})
	if at < 0 {
		x.act(rows.Default, rows.Args)
	} else {
		x.act(rows.Entries[at].Action, rows.Entries[at].Args)
	}
}

// tableOf is how a table matches keys that are as wide as these.
func tableOf(d *api.Decl, keys []api.Bits) match.Table {
	t := match.Table{Size: d.N}
	for i, k := range keys {
		t.Kinds = append(t.Kinds, d.Keys[i].Kind)
		t.Widths = append(t.Widths, k.W)
	}
	return t
}

func (x *pass) call(s *api.Stmt) { x.act(s.Name, x.all(s.Args)) }

// act does an action. None does another one, so that the params of one at a time are enough.
func (x *pass) act(action string, args []api.Bits) {
	d := x.decls[action]
	x.params = map[string]api.Bits{}
	for i, f := range d.Fields {
		x.params[f.Name] = args[i]
	}
	x.do(d.Body)
}

// make need not clear fields: those of a header that is not there are 0.
func (x *pass) make(s *api.Stmt) { x.headers[s.Name].there = true }

func (x *pass) gone(s *api.Stmt) {
	h := x.headers[s.Name]
	h.there = false
	h.clear()
}

// find is the cell at the place that an expression tells, if there is one.
func (x *pass) find(array string, place *api.Expr) (worlds.Cell, bool) {
	return worlds.Find(&x.world.Arrays[x.places[array]], x.value(place))
}

func (x *pass) count(s *api.Stmt) {
	if c, ok := x.find(s.Name, &s.Args[0]); ok {
		c.Count()
		x.tell(api.Effect{Kind: api.EfCount, Array: s.Name, Cell: c.At()})
	}
}

func (x *pass) read(s *api.Stmt) {
	c, ok := x.find(s.Array, &s.Args[0])
	if !ok {
		x.setField(s, api.Bits{W: x.widthOf(s)})
		return
	}
	v := c.Read()
	x.setField(s, v)
	x.tell(api.Effect{Kind: api.EfRead, Array: s.Array, Cell: c.At(), Value: v})
}

func (x *pass) write(s *api.Stmt) {
	if c, ok := x.find(s.Array, &s.Args[0]); ok {
		v := x.value(&s.Args[1])
		c.Write(v)
		x.tell(api.Effect{Kind: api.EfWrite, Array: s.Array, Cell: c.At(), Value: v})
	}
}

func (x *pass) meter(s *api.Stmt) {
	c, ok := x.find(s.Array, &s.Args[0])
	if !ok {
		x.setField(s, api.Bits{W: x.widthOf(s)})
		return
	}
	v := c.Meter(x.world.Now)
	x.setField(s, v)
	x.tell(api.Effect{Kind: api.EfMeter, Array: s.Array, Cell: c.At(), Value: v})
}

func (x *pass) random(s *api.Stmt) {
	v, next := cells.Random(x.world.Random, x.widthOf(s))
	x.world.Random = next
	x.setField(s, v)
	x.tell(api.Effect{Kind: api.EfRandom, Value: v})
}

func (x *pass) drop(*api.Stmt) { x.toDrop = true }

func (x *pass) digest(s *api.Stmt) {
	x.tell(api.Effect{Kind: api.EfDigest, Data: x.all(s.Args)})
}

func (x *pass) clone(s *api.Stmt) { x.tell(api.Effect{Kind: api.EfClone, Group: s.N}) }

func (x *pass) again(*api.Stmt) { x.toBegin = true }

func (x *pass) round(*api.Stmt) { x.toGoRound = true }
