package exec_test

import (
	"fmt"
	"math/rand/v2"
	"reflect"
	"slices"

	"pointsman/api"
	"pointsman/bits"
	"pointsman/types"
)

// dice are alike on every run.
func dice(n uint64) *rand.Rand { return rand.New(rand.NewPCG(16, n)) }

func pick[T any](r *rand.Rand, l []T) T { return l[r.IntN(len(l))] }

// maker makes up programs that may be, their worlds, and packets.
type maker struct {
	*rand.Rand
	p       api.Program
	params  []api.Field
	tables  []string // that may still be applied
	control bool     // a control's statements are made up
	left    int      // how many parts of bodies may still be made up
	calm    bool     // few cells are there, and nothing is made up that is never fixed
}

func (m *maker) all(kind api.DeclKind) []api.Decl {
	return slices.DeleteFunc(slices.Clone(m.p), func(d api.Decl) bool { return d.Kind != kind })
}

// width is in calm programs often that of a field, so that more of what is reckoned hangs on the packet.
func (m *maker) width() int {
	if l := m.known(0); m.calm && m.IntN(4) > 0 {
		return pick(m.Rand, l).W
	}
	return pick(m.Rand, []int{1, 1, 1, 2, 3, 4, 7, 8, 8, 16, 16, 32, 64, 65, 128, 1 + m.IntN(128)})
}

// number is often a small one, or one with all bits set.
func (m *maker) number(w int) api.Bits {
	hi, lo := m.Uint64(), m.Uint64()
	switch m.IntN(4) {
	case 0:
		hi, lo = 0, lo&3
	case 1:
		hi, lo = ^uint64(0), ^uint64(0)
	}
	b, _ := bits.Of(w, hi, lo)
	return b
}

func (m *maker) fields(of string, n int) []api.Field {
	var l []api.Field
	for i := range n {
		l = append(l, api.Field{Name: fmt.Sprint(of, i), W: m.width()})
	}
	return l
}

// known is a field with its owner.
type known struct {
	owner string
	api.Field
}

// known are all fields that wide; of any width, if w is 0.
func (m *maker) known(w int) []known {
	l := []known{{"meta", api.Field{Name: "port", W: 16}}, {"meta", api.Field{Name: "out", W: 16}}}
	for _, d := range m.p {
		owner := d.Name
		if d.Kind == api.DeMeta {
			owner = "meta"
		} else if d.Kind != api.DeHeader {
			continue
		}
		for _, f := range d.Fields {
			l = append(l, known{owner, f})
		}
	}
	return slices.DeleteFunc(l, func(k known) bool { return w != 0 && k.W != w })
}

// leaf is an expression of that width without Args.
func (m *maker) leaf(w int) api.Expr {
	for _, f := range m.params {
		if f.W == w && m.IntN(2) == 0 {
			return api.Expr{Op: api.OpParam, Name: f.Name}
		}
	}
	if l := m.known(w); len(l) > 0 && m.IntN(3) > 0 {
		f := pick(m.Rand, l)
		return api.Expr{Op: api.OpField, Name: f.owner, Field: f.Name}
	}
	if heads := m.all(api.DeHeader); w == 1 && len(heads) > 0 && m.IntN(2) == 0 {
		return api.Expr{Op: api.OpValid, Name: pick(m.Rand, heads).Name}
	}
	return api.Expr{Op: api.OpLit, Lit: m.number(w)}
}

func (m *maker) exprs(widths ...int) []api.Expr {
	var l []api.Expr
	for _, w := range widths {
		l = append(l, m.expr(w))
	}
	return l
}

// expr is an expression of that width.
func (m *maker) expr(w int) api.Expr {
	m.left--
	if m.left <= 0 || m.IntN(3) == 0 {
		return m.leaf(w)
	}
	ops := []api.Op{api.OpAdd, api.OpSub, api.OpMul, api.OpAnd, api.OpOr, api.OpXor, api.OpNot, api.OpShl, api.OpShr, api.OpSlice, api.OpCast}
	if w == 1 {
		ops = append(ops, api.OpEq, api.OpNe, api.OpLt, api.OpLe, api.OpBoth, api.OpAny)
	} else {
		ops = append(ops, api.OpCat)
	}
	if w == 16 || w == 32 {
		ops = append(ops, api.OpHash, api.OpHash)
	}
	x := api.Expr{Op: pick(m.Rand, ops)}
	switch x.Op {
	case api.OpNot:
		x.Args = m.exprs(w)
	case api.OpShl, api.OpShr:
		x.Args = m.exprs(w, m.width())
	case api.OpSlice:
		wide := w + m.IntN(api.MaxWidth-w+1)
		x.M = m.IntN(wide - w + 1)
		x.N = x.M + w - 1
		x.Args = m.exprs(wide)
	case api.OpCast:
		x.N, x.Args = w, m.exprs(m.width())
	case api.OpEq, api.OpNe, api.OpLt, api.OpLe:
		both := m.width()
		x.Args = m.exprs(both, both)
	case api.OpCat:
		first := 1 + m.IntN(w-1)
		x.Args = m.exprs(first, w-first)
	case api.OpHash:
		x.Name = map[int]string{16: pick(m.Rand, []string{"crc16", "csum16", "xor16"}), 32: "crc32"}[w]
		x.Args = m.exprs(m.width())
		for m.IntN(2) == 0 {
			x.Args = append(x.Args, m.expr(m.width()))
		}
	default:
		x.Args = m.exprs(w, w)
	}
	return x
}

func (m *maker) body(deep int) []api.Stmt {
	var l []api.Stmt
	for m.left > 0 && m.IntN(5) > 0 {
		l = append(l, m.stmt(deep))
	}
	return l
}

// stmt is one that may be where it stands; StAgain, if it can't be of the kind that was picked.
func (m *maker) stmt(deep int) api.Stmt {
	m.left--
	kinds := []api.StmtKind{api.StSet, api.StSet, api.StIf, api.StApply, api.StApply, api.StCall, api.StMake, api.StGone, api.StCount, api.StRead, api.StWrite, api.StMeter, api.StRandom, api.StDigest, api.StClone, api.StAgain, api.StRound}
	if m.calm {
		kinds = slices.DeleteFunc(kinds, func(k api.StmtKind) bool { return k == api.StRandom || k == api.StDigest })
		kinds = append(kinds, api.StIf, api.StIf)
	}
	if m.IntN(50) == 0 || m.calm && m.IntN(12) == 0 {
		kinds = []api.StmtKind{api.StDrop}
	}
	s := api.Stmt{Kind: pick(m.Rand, kinds)}
	ok := true
	switch s.Kind {
	case api.StSet:
		s.Args = m.exprs(m.target(&s, 0))
	case api.StIf:
		if ok = deep < 5; ok {
			s.Args, s.Body, s.Else = m.exprs(1), m.body(deep+1), m.body(deep+1)
		}
	case api.StApply:
		if ok = m.control && len(m.tables) > 0; ok {
			s.Name, m.tables = m.tables[0], m.tables[1:]
		}
	case api.StCall:
		l := m.all(api.DeAction)
		if ok = m.control && len(l) > 0; ok {
			d := pick(m.Rand, l)
			s.Name = d.Name
			for _, f := range d.Fields {
				s.Args = append(s.Args, m.expr(f.W))
			}
		}
	case api.StMake, api.StGone:
		l := m.all(api.DeHeader)
		if ok = len(l) > 0; ok {
			s.Name = pick(m.Rand, l).Name
		}
	case api.StRandom:
		m.target(&s, 0)
	case api.StDigest:
		s.Args = m.exprs(m.width(), m.width(), m.width())[:1+m.IntN(3)]
	case api.StClone:
		s.N = m.IntN(api.MaxGroup)
	case api.StCount, api.StRead, api.StWrite, api.StMeter:
		ok = m.cell(&s)
	}
	if !ok {
		return api.Stmt{Kind: api.StAgain}
	}
	return s
}

// target picks the field that a statement sets, and tells how wide it is; 0, if there is none that wide.
func (m *maker) target(s *api.Stmt, w int) int {
	l := m.known(w)
	if len(l) == 0 {
		return 0
	}
	f := pick(m.Rand, l)
	s.Name, s.Field = f.owner, f.Name
	return f.W
}

// cell makes up a statement of a cell, if it can. Where the cell is, is often a number of few bits, so that it is there as often as not.
func (m *maker) cell(s *api.Stmt) bool {
	kind := map[api.StmtKind]api.DeclKind{api.StCount: api.DeCounter, api.StRead: api.DeRegister, api.StWrite: api.DeRegister, api.StMeter: api.DeMeter}[s.Kind]
	l := m.all(kind)
	if len(l) == 0 {
		return false
	}
	d := pick(m.Rand, l)
	s.Array = d.Name
	widths := []int{1, 2, 3, m.width()}
	if m.calm {
		widths = []int{16, 32}
	}
	s.Args = m.exprs(pick(m.Rand, widths))
	switch s.Kind {
	case api.StCount:
		s.Name, s.Array = d.Name, ""
		return true
	case api.StWrite:
		s.Args = append(s.Args, m.expr(d.W))
		return true
	}
	return m.target(s, max(d.W, 1)) > 0
}

func (m *maker) header(n int) api.Decl {
	d := api.Decl{Kind: api.DeHeader, Name: fmt.Sprint("h", n), Fields: m.fields("a", 1+m.IntN(3))}
	all := 0
	for _, f := range d.Fields {
		all += f.W
	}
	if all%8 > 0 {
		d.Fields = append(d.Fields, api.Field{Name: "pad", W: 8 - all%8})
	}
	return d
}

func (m *maker) parser() api.Decl {
	names := []string{"start", "s0", "s1", "s2"}[:1+m.IntN(4)]
	targets := append([]string{"accept", "accept", "accept", "accept", "reject"}, names...)
	d := api.Decl{Kind: api.DeParser}
	for _, name := range names {
		s := api.State{Name: name, To: pick(m.Rand, targets)}
		for _, h := range m.all(api.DeHeader) {
			if m.IntN(2) == 0 || m.calm && m.IntN(3) > 0 {
				s.Headers = append(s.Headers, h.Name)
			}
		}
		if w := m.width(); m.IntN(3) > 0 {
			m.left += 5
			s.Select = m.exprs(w)
			for range m.IntN(4) {
				s.Cases = append(s.Cases, api.Case{Value: m.number(w), Mask: m.number(w), To: pick(m.Rand, targets)})
			}
		}
		d.States = append(d.States, s)
	}
	m.Shuffle(len(d.States), reflect.Swapper(d.States))
	return d
}

func (m *maker) table(n int) api.Decl {
	d := api.Decl{Kind: api.DeTable, Name: fmt.Sprint("t", n), N: 1 + m.IntN(api.MaxCells)}
	prefix := false
	for range m.IntN(4) {
		k := api.Key{Expr: m.expr(m.width()), Kind: api.KeExact + api.KeyKind(m.IntN(4))}
		if prefix && k.Kind == api.KePrefix {
			k.Kind = api.KeExact
		}
		prefix = prefix || k.Kind == api.KePrefix
		d.Keys = append(d.Keys, k)
	}
	actions := m.all(api.DeAction)
	m.Shuffle(len(actions), reflect.Swapper(actions))
	actions = actions[:1+m.IntN(len(actions))]
	for _, a := range actions {
		d.Actions = append(d.Actions, a.Name)
	}
	by := pick(m.Rand, actions)
	d.Default, d.Args = by.Name, m.args(by)
	return d
}

func (m *maker) args(action api.Decl) []api.Bits {
	var l []api.Bits
	for _, f := range action.Fields {
		l = append(l, m.number(f.W))
	}
	return l
}

// made is a maker with a program that may be, of which all stands in no order.
func made(r *rand.Rand, size int, calm bool) *maker {
	m := &maker{Rand: r, calm: calm}
	for i := range r.IntN(4) {
		m.p = append(m.p, m.header(i))
	}
	if calm {
		m.p = append(m.p, m.header(4))
	}
	if r.IntN(3) > 0 {
		m.p = append(m.p, api.Decl{Kind: api.DeMeta, Fields: m.fields("m", r.IntN(5))})
	}
	for i := range r.IntN(3) {
		m.p = append(m.p, api.Decl{Kind: api.DeRegister, Name: fmt.Sprint("r", i), W: pick(r, m.known(0)).W, N: 1 + r.IntN(4)})
		m.p = append(m.p, api.Decl{Kind: api.DeCounter, Name: fmt.Sprint("c", i), N: 1 + r.IntN(4)})
		m.p = append(m.p, api.Decl{Kind: api.DeMeter, Name: fmt.Sprint("y", i), N: 1 + r.IntN(4), Rate: r.IntN(3), Burst: 1 + r.IntN(3)})
	}
	for i := range r.IntN(4) {
		m.left = size
		m.params = m.fields("p", r.IntN(4))
		m.p = append(m.p, api.Decl{Kind: api.DeAction, Name: fmt.Sprint("f", i), Fields: m.params, Body: m.body(0)})
	}
	m.params, m.left = nil, size
	if len(m.all(api.DeAction)) > 0 {
		for i := range r.IntN(4) {
			d := m.table(i)
			m.p, m.tables = append(m.p, d), append(m.tables, d.Name)
		}
	}
	if r.IntN(8) > 0 {
		m.p = append(m.p, m.parser())
	}
	if r.IntN(16) > 0 {
		m.control, m.left = true, 2*size
		m.p = append(m.p, api.Decl{Kind: api.DeControl, Body: m.body(0)})
	}
	if r.IntN(8) > 0 {
		d := api.Decl{Kind: api.DeDeparser}
		for _, h := range m.all(api.DeHeader) {
			d.Emits = append(d.Emits, h.Name)
		}
		r.Shuffle(len(d.Emits), reflect.Swapper(d.Emits))
		m.p = append(m.p, d)
	}
	r.Shuffle(len(m.p), reflect.Swapper(m.p))
	return m
}

// world is one of the program's.
func (m *maker) world() api.World {
	w := api.World{Groups: make([]api.Group, api.MaxGroup), Now: m.IntN(5), Random: m.Uint64()}
	for i := range w.Groups {
		for range m.IntN(3) {
			w.Groups[i].Ports = append(w.Groups[i].Ports, m.IntN(65536))
		}
	}
	for _, d := range m.p {
		switch d.Kind {
		case api.DeTable:
			w.Tables = append(w.Tables, m.rows(d))
		case api.DeRegister, api.DeCounter, api.DeMeter:
			w.Arrays = append(w.Arrays, m.array(d))
		}
	}
	return w
}

func (m *maker) array(d api.Decl) api.Array {
	a := api.Array{Name: d.Name, Kind: d.Kind, W: max(d.W, 1), Rate: d.Rate, Burst: d.Burst}
	if d.Kind != api.DeRegister {
		a.W = 64
	}
	for range d.N {
		c := m.number(a.W)
		if d.Kind == api.DeMeter {
			c = api.Bits{W: 64, Lo: uint64(m.IntN(d.Burst + 1))}
			a.Last = append(a.Last, m.IntN(5))
		}
		a.Cells = append(a.Cells, c)
	}
	return a
}

func (m *maker) rows(d api.Decl) api.Rows {
	action := func(name string) api.Decl {
		return m.p[slices.IndexFunc(m.p, func(d api.Decl) bool { return d.Kind == api.DeAction && d.Name == name })]
	}
	w := api.Rows{Name: d.Name, Default: pick(m.Rand, d.Actions)}
	w.Args = m.args(action(w.Default))
	weighs := slices.ContainsFunc(d.Keys, func(k api.Key) bool { return k.Kind == api.KeMask || k.Kind == api.KeRange })
	for range m.IntN(min(d.N, 5) + 1) {
		name := pick(m.Rand, d.Actions)
		e := api.Entry{Action: name, Args: m.args(action(name))}
		if weighs {
			e.Priority = 1 + m.IntN(3)
		}
		for _, k := range d.Keys {
			width, _ := types.Width(m.p, nil, k.Expr)
			e.Matches = append(e.Matches, m.match(k.Kind, width))
		}
		place := func(x api.Entry) bool {
			return x.Priority == e.Priority && slices.Equal(x.Matches, e.Matches)
		}
		if !slices.ContainsFunc(w.Entries, place) {
			w.Entries = append(w.Entries, e)
		}
	}
	return w
}

func (m *maker) match(kind api.KeyKind, w int) api.Match {
	x := api.Match{Value: m.number(w)}
	switch kind {
	case api.KePrefix:
		x.Len = pick(m.Rand, []int{0, 1, w, m.IntN(w + 1)})
		by := api.Bits{W: 16, Lo: uint64(w - x.Len)}
		x.Value, _ = bits.Do(api.OpShr, x.Value, by, 0, 0)
		x.Value, _ = bits.Do(api.OpShl, x.Value, by, 0, 0)
	case api.KeMask:
		x.Mask = m.number(w)
		x.Value, _ = bits.Do(api.OpAnd, x.Value, x.Mask, 0, 0)
	case api.KeRange:
		x.Mask, _ = bits.Do(api.OpOr, x.Value, m.number(w), 0, 0)
	}
	return x
}

// bytes are a packet's.
func (m *maker) bytes() []byte {
	b := make([]byte, pick(m.Rand, []int{0, m.IntN(20), m.IntN(100), 100 + m.IntN(100), api.MaxPacket - m.IntN(20)}))
	if m.calm && m.IntN(3) > 0 {
		b = make([]byte, 50+m.IntN(200))
	}
	for i := range b {
		b[i] = pick(m.Rand, []byte{0, 1, 0xff, byte(m.IntN(256))})
	}
	return b
}
