package lower_test

import (
	"slices"

	"pointsman/api"
	"pointsman/bits"
	"pointsman/packet"
	"pointsman/sums"
)

// run is what a pass by the tree and one by code have in common: the world, and what is told.
type run struct {
	w                  api.World
	pass               api.Pass
	drop, again, round bool
	seen               map[string]int // what came about, for those who ask whether a sample says enough
}

func newRun(w api.World) run { return run{w: copied(w, 0), seen: map[string]int{}} }

func (r *run) tell(e api.Effect) { r.pass.Effects = append(r.pass.Effects, e) }

// cellOf is the place of a cell; -1, if there is none.
func cellOf(a api.Array, i api.Bits) int {
	if i.Hi != 0 || i.Lo >= uint64(len(a.Cells)) {
		return -1
	}
	return int(i.Lo)
}

// cell does something with a cell, and tells it; nothing, if there is none. It answers what is found in the cell.
func (r *run) cell(array int, kind api.EffectKind, i api.Bits, do func(a *api.Array, at int) api.Bits) (api.Bits, bool) {
	a := &r.w.Arrays[array]
	at := cellOf(*a, i)
	if at < 0 {
		r.seen["no cell"]++
		return api.Bits{}, false
	}
	r.seen["cell"]++
	v := do(a, at)
	e := api.Effect{Kind: kind, Array: a.Name, Cell: at}
	if kind != api.EfCount {
		e.Value = v
	}
	r.tell(e)
	return v, true
}

func (r *run) count(array int, i api.Bits) {
	r.cell(array, api.EfCount, i, func(a *api.Array, at int) api.Bits {
		a.Cells[at].Lo++
		return api.Bits{}
	})
}

func (r *run) read(array int, i api.Bits) api.Bits {
	v, ok := r.cell(array, api.EfRead, i, func(a *api.Array, at int) api.Bits { return a.Cells[at] })
	if !ok {
		return api.Bits{W: r.w.Arrays[array].W}
	}
	return v
}

func (r *run) write(array int, i, v api.Bits) {
	r.cell(array, api.EfWrite, i, func(a *api.Array, at int) api.Bits {
		a.Cells[at] = v
		return v
	})
}

func (r *run) meter(array int, i api.Bits) api.Bits {
	v, ok := r.cell(array, api.EfMeter, i, func(a *api.Array, at int) api.Bits {
		tokens := int(a.Cells[at].Lo)
		if r.w.Now > a.Last[at] {
			tokens = min(a.Burst, tokens+a.Rate*(r.w.Now-a.Last[at]))
			a.Last[at] = r.w.Now
		}
		left := max(tokens-1, 0)
		a.Cells[at].Lo = uint64(left)
		return api.Bits{W: 1, Lo: uint64(tokens - left)}
	})
	if !ok {
		return api.Bits{W: 1}
	}
	return v
}

func (r *run) random(w int) api.Bits {
	next := func(x uint64) uint64 { return x*6364136223846793005 + 1442695040888963407 }
	s := next(r.w.Random)
	r.w.Random = next(s)
	v, _ := bits.Of(w, s, r.w.Random)
	r.tell(api.Effect{Kind: api.EfRandom, Value: v})
	return v
}

// hit asks a table; it answers the action, and its args.
func (r *run) hit(table int, kinds []api.KeyKind, keys []api.Bits) (string, []api.Bits) {
	rows := r.w.Tables[table]
	at := -1
	better := func(a, b api.Entry) bool {
		if slices.Contains(kinds, api.KeMask) || slices.Contains(kinds, api.KeRange) {
			return a.Priority > b.Priority
		}
		i := slices.Index(kinds, api.KePrefix)
		return i >= 0 && a.Matches[i].Len > b.Matches[i].Len
	}
	for n, e := range rows.Entries {
		if matches(kinds, e.Matches, keys) && (at < 0 || better(e, rows.Entries[at])) {
			at = n
		}
	}
	r.tell(api.Effect{Kind: api.EfHit, Table: rows.Name, Entry: at})
	if at < 0 {
		r.seen["miss"]++
		return rows.Default, rows.Args
	}
	r.seen["hit"]++
	return rows.Entries[at].Action, rows.Entries[at].Args
}

func matches(kinds []api.KeyKind, l []api.Match, keys []api.Bits) bool {
	for i, k := range keys {
		m := l[i]
		up, _ := bits.Do(api.OpLe, m.Value, k, 0, 0)
		ok := k == m.Value
		switch kinds[i] {
		case api.KePrefix:
			by := api.Bits{W: 16, Lo: uint64(k.W - m.Len)}
			a, _ := bits.Do(api.OpShr, k, by, 0, 0)
			b, _ := bits.Do(api.OpShr, m.Value, by, 0, 0)
			ok = a == b
		case api.KeMask:
			ok = k.Hi&m.Mask.Hi == m.Value.Hi && k.Lo&m.Mask.Lo == m.Value.Lo
		case api.KeRange:
			down, _ := bits.Do(api.OpLe, k, m.Mask, 0, 0)
			ok = up.Lo == 1 && down.Lo == 1
		}
		if !ok {
			return false
		}
	}
	return true
}

// end tells what ended in the parser, or what is put together: the headers that are there, and the rest.
func (r *run) end(kind api.EndKind, heads []api.Bits, rest []byte, out api.Bits) {
	r.pass.End = kind
	if kind != api.EndSent {
		return
	}
	b, _ := packet.Put(heads)
	b = append(b, rest...)
	if len(b) > api.MaxPacket {
		b, r.drop = nil, true
		r.seen["too long"]++
	}
	r.pass.Packet = b
	if r.drop {
		r.pass.End = api.EndDropped
		return
	}
	r.pass.Port, r.pass.Again, r.pass.Round = int(out.Lo), r.again, r.round && !r.again
}

// led says whether a case is one of a value.
func led(v, value, mask api.Bits) bool {
	return v.Hi&mask.Hi == value.Hi&mask.Hi && v.Lo&mask.Lo == value.Lo&mask.Lo
}

// tree is a pass by the tree, as chapter 15 says.
type tree struct {
	run
	p      api.Program
	decls  map[string]int // places of declarations by their names
	there  map[string]bool
	fields map[[2]string]api.Bits
	params map[string]api.Bits
}

// one is the declaration of a kind that a program has once; a zero one, if it has none.
func (t *tree) one(kind api.DeclKind) api.Decl {
	for _, d := range t.p {
		if d.Kind == kind {
			return d
		}
	}
	return api.Decl{}
}

// nth is the place of a name among the declarations of these kinds.
func (t *tree) nth(name string, kinds ...api.DeclKind) int {
	n := 0
	for _, d := range t.p[:t.decls[name]] {
		if slices.Contains(kinds, d.Kind) {
			n++
		}
	}
	return n
}

func (t *tree) array(name string) int {
	return t.nth(name, api.DeRegister, api.DeCounter, api.DeMeter)
}

func treeRun(p api.Program, w api.World, port int, b []byte) run {
	t := &tree{run: newRun(w), p: p, decls: map[string]int{}, there: map[string]bool{}, fields: map[[2]string]api.Bits{}}
	for i, d := range p {
		t.decls[d.Name] = i
		if d.Kind == api.DeHeader {
			t.clear(d)
		}
	}
	t.fields[[2]string{"meta", "port"}] = api.Bits{W: 16, Lo: uint64(port)}
	t.fields[[2]string{"meta", "out"}] = api.Bits{W: 16}
	for _, f := range t.one(api.DeMeta).Fields {
		t.fields[[2]string{"meta", f.Name}] = api.Bits{W: f.W}
	}
	end, rest := t.parse(b)
	var heads []api.Bits
	if end == api.EndSent {
		t.stmts(t.one(api.DeControl).Body)
		for _, name := range t.one(api.DeDeparser).Emits {
			for _, f := range t.p[t.decls[name]].Fields {
				if t.there[name] {
					heads = append(heads, t.fields[[2]string{name, f.Name}])
				}
			}
		}
	}
	t.end(end, heads, rest, t.fields[[2]string{"meta", "out"}])
	return t.run
}

func (t *tree) clear(header api.Decl) {
	for _, f := range header.Fields {
		t.fields[[2]string{header.Name, f.Name}] = api.Bits{W: f.W}
	}
}

func (t *tree) parse(b []byte) (api.EndKind, []byte) {
	states := t.one(api.DeParser).States
	if len(states) == 0 {
		return api.EndSent, b
	}
	c, _ := packet.New(b)
	for at, steps := "start", 0; ; steps++ {
		switch {
		case at == "accept":
			return api.EndSent, c.Rest()
		case at == "reject":
			return api.EndReject, nil
		case steps == api.MaxSteps:
			return api.EndSteps, nil
		}
		s := states[slices.IndexFunc(states, func(s api.State) bool { return s.Name == at })]
		for _, h := range s.Headers {
			if !t.take(c, t.p[t.decls[h]]) {
				return api.EndShort, nil
			}
		}
		at = t.leads(s)
	}
}

func (t *tree) take(c *packet.Cursor, header api.Decl) bool {
	for _, f := range header.Fields {
		v, e := c.Take(f.W)
		if e != api.OK {
			return false
		}
		t.fields[[2]string{header.Name, f.Name}] = v
	}
	t.there[header.Name] = true
	return true
}

func (t *tree) leads(s api.State) string {
	for _, x := range s.Select {
		v := t.expr(x)
		for _, c := range s.Cases {
			if led(v, c.Value, c.Mask) {
				t.seen["case"]++
				return c.To
			}
		}
		t.seen["else"]++
	}
	return s.To
}

func (t *tree) exprs(l []api.Expr) []api.Bits {
	var out []api.Bits
	for _, x := range l {
		out = append(out, t.expr(x))
	}
	return out
}

func (t *tree) expr(x api.Expr) api.Bits {
	t.seen["op "+opName(x.Op)]++
	l := append(t.exprs(x.Args), api.Bits{}, api.Bits{})
	switch x.Op {
	case api.OpLit:
		return x.Lit
	case api.OpField:
		return t.fields[[2]string{x.Name, x.Field}]
	case api.OpParam:
		return t.params[x.Name]
	case api.OpValid:
		return bit(t.there[x.Name])
	case api.OpHash:
		return hashed(sums.Find(x.Name), l[:len(x.Args)])
	}
	v, e := bits.Do(x.Op, l[0], l[1], x.N, x.M)
	if e != api.OK {
		panic(e)
	}
	return v
}

func hashed(n int, l []api.Bits) api.Bits {
	b, _ := packet.Put(l)
	v, e := sums.Sum(n, b)
	if e != api.OK {
		panic(e)
	}
	return v
}

func bit(b bool) api.Bits {
	if b {
		return api.Bits{W: 1, Lo: 1}
	}
	return api.Bits{W: 1}
}

// set: the field is the value, if its header is there.
func (t *tree) set(s api.Stmt, v api.Bits) {
	if s.Name != "meta" && !t.there[s.Name] {
		t.seen["set "+stmtName(s.Kind)+" of no header"]++
		return
	}
	t.seen["set "+stmtName(s.Kind)]++
	t.fields[[2]string{s.Name, s.Field}] = v
}

func (t *tree) act(action string, args []api.Bits) {
	d := t.p[t.decls[action]]
	t.params = map[string]api.Bits{}
	for i, f := range d.Fields {
		t.params[f.Name] = args[i]
	}
	t.stmts(d.Body)
	t.params = nil
}

func (t *tree) stmts(l []api.Stmt) {
	for _, s := range l {
		where := " in the control"
		if t.params != nil {
			where = " in an action"
		}
		t.seen["stmt "+stmtName(s.Kind)+where]++
		t.stmt(s, t.exprs(s.Args))
	}
}

func (t *tree) stmt(s api.Stmt, args []api.Bits) {
	switch s.Kind {
	case api.StSet:
		t.set(s, args[0])
	case api.StIf:
		if args[0].Lo == 1 {
			t.seen["if"]++
			t.stmts(s.Body)
		} else {
			t.seen["if not"]++
			t.stmts(s.Else)
		}
	case api.StApply:
		d := t.p[t.decls[s.Name]]
		var kinds []api.KeyKind
		var keys []api.Bits
		for _, k := range d.Keys {
			kinds, keys = append(kinds, k.Kind), append(keys, t.expr(k.Expr))
		}
		t.act(t.hit(t.nth(s.Name, api.DeTable), kinds, keys))
	case api.StCall:
		t.act(s.Name, args)
	case api.StMake:
		if !t.there[s.Name] {
			t.clear(t.p[t.decls[s.Name]])
		}
		t.there[s.Name] = true
	case api.StGone:
		t.clear(t.p[t.decls[s.Name]])
		t.there[s.Name] = false
	case api.StCount:
		t.count(t.array(s.Name), args[0])
	case api.StRead:
		t.set(s, t.read(t.array(s.Array), args[0]))
	case api.StWrite:
		t.write(t.array(s.Array), args[0], args[1])
	case api.StMeter:
		t.set(s, t.meter(t.array(s.Array), args[0]))
	case api.StRandom:
		t.set(s, t.random(t.fields[[2]string{s.Name, s.Field}].W))
	case api.StDrop:
		t.drop = true
	case api.StAgain:
		t.again = true
	case api.StRound:
		t.round = true
	case api.StDigest:
		t.tell(api.Effect{Kind: api.EfDigest, Data: args})
	case api.StClone:
		t.tell(api.Effect{Kind: api.EfClone, Group: s.N})
	}
}
