package types_test

import (
	"cmp"
	"fmt"
	"maps"
	"math/rand/v2"
	"reflect"
	"slices"
	"testing"

	"pointsman/api"
	"pointsman/bits"
	"pointsman/types"
)

// dice are alike on every run.
func dice() *rand.Rand { return rand.New(rand.NewPCG(10, 17)) }

func pick[T any](r *rand.Rand, l []T) T { return l[r.IntN(len(l))] }

// maker makes up programs that may be.
type maker struct {
	*rand.Rand
	p       api.Program
	params  []api.Field
	tables  []string // that may still be applied
	actions bool     // actions may be called
	left    int      // how many parts of bodies may still be made up
}

func (m *maker) named(kind api.DeclKind) []api.Decl {
	var l []api.Decl
	for _, d := range m.p {
		if d.Kind == kind {
			l = append(l, d)
		}
	}
	return l
}

func (m *maker) lit(w int) api.Bits {
	b, _ := bits.Of(w, m.Uint64(), m.Uint64()>>m.IntN(64))
	return b
}

func (m *maker) width() int {
	return pick(m.Rand, []int{1, 1, 2, 4, 7, 8, 8, 16, 16, 32, 64, 128, 1 + m.IntN(128)})
}

func (m *maker) name(of string, n int) string { return fmt.Sprintf("%s%d", of, n) }

func (m *maker) fields(of string, n int) []api.Field {
	var l []api.Field
	for i := range n {
		l = append(l, api.Field{Name: m.name(of, i), W: m.width()})
	}
	return l
}

// fieldsOf are all fields that wide, told with their owners; of any width, if w is 0.
func (m *maker) fieldsOf(w int) [][2]string {
	l := [][2]string{}
	add := func(owner string, fields ...api.Field) {
		for _, f := range fields {
			if w == 0 || f.W == w {
				l = append(l, [2]string{owner, f.Name})
			}
		}
	}
	add("meta", api.Field{Name: "port", W: 16}, api.Field{Name: "out", W: 16})
	for _, d := range m.p {
		switch d.Kind {
		case api.DeHeader:
			add(d.Name, d.Fields...)
		case api.DeMeta:
			add("meta", d.Fields...)
		}
	}
	return l
}

func (m *maker) widthOf(f [2]string) int { return (&model{p: m.p}).fieldWidth(f[0], f[1]) }

// leaf is an expression of that width without Args.
func (m *maker) leaf(w int) api.Expr {
	if fields := m.fieldsOf(w); len(fields) > 0 && m.IntN(2) == 0 {
		f := pick(m.Rand, fields)
		return api.Expr{Op: api.OpField, Name: f[0], Field: f[1]}
	}
	for _, f := range m.params {
		if f.W == w && m.IntN(2) == 0 {
			return api.Expr{Op: api.OpParam, Name: f.Name}
		}
	}
	if heads := m.named(api.DeHeader); w == 1 && len(heads) > 0 && m.IntN(2) == 0 {
		return api.Expr{Op: api.OpValid, Name: pick(m.Rand, heads).Name}
	}
	return api.Expr{Op: api.OpLit, Lit: m.lit(w)}
}

// expr is an expression of that width.
func (m *maker) expr(w int) api.Expr {
	m.left--
	if m.left <= 0 || m.IntN(3) == 0 {
		return m.leaf(w)
	}
	of := func(op api.Op, widths ...int) api.Expr {
		x := api.Expr{Op: op}
		for _, w := range widths {
			x.Args = append(x.Args, m.expr(w))
		}
		return x
	}
	ops := []api.Op{api.OpAdd, api.OpSub, api.OpMul, api.OpAnd, api.OpOr, api.OpXor, api.OpNot, api.OpShl, api.OpShr, api.OpSlice, api.OpCast}
	if w == 1 {
		ops = append(ops, api.OpEq, api.OpNe, api.OpLt, api.OpLe, api.OpBoth, api.OpAny)
	} else {
		ops = append(ops, api.OpCat, api.OpCat)
	}
	if w == 16 || w == 32 {
		ops = append(ops, api.OpHash, api.OpHash)
	}
	switch op := pick(m.Rand, ops); op {
	case api.OpNot:
		return of(op, w)
	case api.OpShl, api.OpShr:
		return of(op, w, m.width())
	case api.OpSlice:
		x := of(op, w+m.IntN(api.MaxWidth-w+1))
		wide := (&model{p: m.p, params: m.params}).expr(x.Args[0])
		x.M = m.IntN(wide - w + 1)
		x.N = x.M + w - 1
		return x
	case api.OpCast:
		x := of(op, m.width())
		x.N = w
		return x
	case api.OpEq, api.OpNe, api.OpLt, api.OpLe:
		both := m.width()
		return of(op, both, both)
	case api.OpCat:
		first := 1 + m.IntN(w-1)
		return of(op, first, w-first)
	case api.OpHash:
		x := of(op, m.width())
		for m.IntN(2) == 0 {
			x.Args = append(x.Args, m.expr(m.width()))
		}
		x.Name = map[int]string{16: pick(m.Rand, []string{"crc16", "csum16", "xor16"}), 32: "crc32"}[w]
		return x
	default:
		return of(op, w, w)
	}
}

func (m *maker) exprs(widths ...int) []api.Expr {
	var l []api.Expr
	for _, w := range widths {
		l = append(l, m.expr(w))
	}
	return l
}

func (m *maker) body(deep int) []api.Stmt {
	var l []api.Stmt
	for m.left > 0 && m.IntN(4) > 0 {
		l = append(l, m.stmt(deep))
	}
	return l
}

// stmt is one that may be where it stands; StDrop, if it can't be of the kind that was picked.
func (m *maker) stmt(deep int) api.Stmt {
	m.left--
	s := api.Stmt{Kind: api.StSet + api.StmtKind(m.IntN(int(api.StRound)))}
	drop := api.Stmt{Kind: api.StDrop}
	set := func(f [2]string) { s.Name, s.Field = f[0], f[1] }
	switch s.Kind {
	case api.StSet:
		f := pick(m.Rand, m.fieldsOf(0))
		set(f)
		s.Args = m.exprs(m.widthOf(f))
	case api.StIf:
		if deep > 5 {
			return drop
		}
		s.Args, s.Body, s.Else = m.exprs(1), m.body(deep+1), m.body(deep+1)
	case api.StApply:
		if len(m.tables) == 0 {
			return drop
		}
		s.Name, m.tables = m.tables[0], m.tables[1:]
	case api.StCall:
		l := m.named(api.DeAction)
		if len(l) == 0 || !m.actions {
			return drop
		}
		d := pick(m.Rand, l)
		s.Name = d.Name
		for _, f := range d.Fields {
			s.Args = append(s.Args, m.expr(f.W))
		}
	case api.StMake, api.StGone:
		l := m.named(api.DeHeader)
		if len(l) == 0 {
			return drop
		}
		s.Name = pick(m.Rand, l).Name
	case api.StRandom:
		set(pick(m.Rand, m.fieldsOf(0)))
	case api.StDigest:
		s.Args = m.exprs(m.width(), m.width())[:1+m.IntN(2)]
	case api.StClone:
		s.N = m.IntN(api.MaxGroup)
	case api.StCount, api.StRead, api.StWrite, api.StMeter:
		if !m.cell(&s, set) {
			return drop
		}
	}
	return s
}

// cell makes up a statement of a cell, if it can.
func (m *maker) cell(s *api.Stmt, set func([2]string)) bool {
	kind := map[api.StmtKind]api.DeclKind{api.StCount: api.DeCounter, api.StRead: api.DeRegister, api.StWrite: api.DeRegister, api.StMeter: api.DeMeter}[s.Kind]
	l := m.named(kind)
	if len(l) == 0 {
		return false
	}
	d := pick(m.Rand, l)
	s.Args = m.exprs(m.width())
	if s.Kind == api.StCount {
		s.Name = d.Name
		return true
	}
	s.Array = d.Name
	if s.Kind == api.StWrite {
		s.Args = append(s.Args, m.expr(d.W))
		return true
	}
	w := max(d.W, 1)
	fields := m.fieldsOf(w)
	if len(fields) == 0 {
		return false
	}
	set(pick(m.Rand, fields))
	return true
}

func (m *maker) header(n int) api.Decl {
	d := api.Decl{Kind: api.DeHeader, Name: m.name("h", n), Fields: m.fields("a", 1+m.IntN(3))}
	all := 0
	for _, f := range d.Fields {
		all += f.W
	}
	if all%8 > 0 {
		d.Fields = append(d.Fields, api.Field{Name: "pad", W: 8 - all%8})
	}
	return d
}

func (m *maker) parser() api.Decl {
	names := []string{"start"}
	for i := range m.IntN(3) {
		names = append(names, m.name("s", i))
	}
	targets := append([]string{"accept", "reject"}, names...)
	d := api.Decl{Kind: api.DeParser}
	for _, name := range names {
		s := api.State{Name: name, To: pick(m.Rand, targets)}
		for _, h := range m.named(api.DeHeader) {
			if m.IntN(2) == 0 {
				s.Headers = append(s.Headers, h.Name)
			}
		}
		if w := m.width(); m.IntN(3) > 0 {
			s.Select = m.exprs(w)
			for range m.IntN(3) {
				s.Cases = append(s.Cases, api.Case{Value: m.lit(w), Mask: m.lit(w), To: pick(m.Rand, targets)})
			}
		}
		d.States = append(d.States, s)
	}
	m.Shuffle(len(d.States), reflect.Swapper(d.States))
	return d
}

func (m *maker) table(n int) api.Decl {
	d := api.Decl{Kind: api.DeTable, Name: m.name("t", n), N: 1 + m.IntN(api.MaxCells)}
	for range m.IntN(4) {
		k := api.Key{Expr: m.expr(m.width()), Kind: api.KeExact + api.KeyKind(m.IntN(4))}
		if k.Kind == api.KePrefix && slices.ContainsFunc(d.Keys, func(k api.Key) bool { return k.Kind == api.KePrefix }) {
			k.Kind = api.KeMask
		}
		d.Keys = append(d.Keys, k)
	}
	actions := m.named(api.DeAction)
	m.Shuffle(len(actions), reflect.Swapper(actions))
	actions = actions[:1+m.IntN(len(actions))]
	for _, a := range actions {
		d.Actions = append(d.Actions, a.Name)
	}
	by := pick(m.Rand, actions)
	d.Default = by.Name
	for _, f := range by.Fields {
		d.Args = append(d.Args, m.lit(f.W))
	}
	return d
}

// made is a program that may be; each of its lines is another.
func made(r *rand.Rand, size int) api.Program {
	m := &maker{Rand: r, left: size}
	for i := range r.IntN(4) {
		m.p = append(m.p, m.header(i))
	}
	if r.IntN(3) > 0 {
		m.p = append(m.p, api.Decl{Kind: api.DeMeta, Fields: m.fields("m", r.IntN(4))})
	}
	for i := range r.IntN(3) {
		m.p = append(m.p, api.Decl{Kind: api.DeRegister, Name: m.name("r", i), W: m.width(), N: 1 + r.IntN(api.MaxCells)})
		m.p = append(m.p, api.Decl{Kind: api.DeCounter, Name: m.name("c", i), N: 1 + r.IntN(api.MaxCells)})
		m.p = append(m.p, api.Decl{Kind: api.DeMeter, Name: m.name("y", i), N: 1 + r.IntN(api.MaxCells), Rate: r.IntN(65536), Burst: 1 + r.IntN(65535)})
	}
	for i := range r.IntN(4) {
		m.params = m.fields("p", r.IntN(4))
		m.p = append(m.p, api.Decl{Kind: api.DeAction, Name: m.name("f", i), Fields: m.params, Body: m.body(0)})
	}
	m.params = nil
	if len(m.named(api.DeAction)) > 0 {
		for i := range r.IntN(4) {
			d := m.table(i)
			m.p, m.tables = append(m.p, d), append(m.tables, d.Name)
		}
	}
	m.actions = true
	if r.IntN(4) > 0 {
		m.p = append(m.p, m.parser())
	}
	if r.IntN(4) > 0 {
		m.left = max(m.left, size/2)
		m.p = append(m.p, api.Decl{Kind: api.DeControl, Body: m.body(0)})
	}
	if r.IntN(4) > 0 {
		d := api.Decl{Kind: api.DeDeparser}
		for _, h := range m.named(api.DeHeader) {
			d.Emits = append(d.Emits, h.Name)
		}
		m.p = append(m.p, d)
	}
	r.Shuffle(len(m.p), reflect.Swapper(m.p))
	line := 0
	numbered(reflect.ValueOf(&m.p).Elem(), &line)
	return m.p
}

// numbered gives each part that has a line another one.
func numbered(v reflect.Value, line *int) {
	switch v.Kind() {
	case reflect.Slice:
		for i := range v.Len() {
			numbered(v.Index(i), line)
		}
	case reflect.Struct:
		for i := range v.NumField() {
			if v.Type().Field(i).Name == "Line" {
				*line++
				v.Field(i).SetInt(int64(*line))
			}
			numbered(v.Field(i), line)
		}
	}
}

// TestMadeUpPrograms: programs that may be; and so they are in any order, and without their parser, control, deparser.
func TestMadeUpPrograms(t *testing.T) { // P10.1, P10.3
	r := dice()
	fine := 0
	for n := range 3000 {
		p := made(r, n%80)
		want := holds(t, p)
		if want.e == api.ErrLimit { // print's
			continue
		}
		if want.e != api.OK {
			t.Fatalf("the maker made %+v of %s", want, told(p))
		}
		fine++
		for range 3 {
			q := slices.Clone(p)
			r.Shuffle(len(q), reflect.Swapper(q))
			if want := holds(t, q); want.e != api.OK {
				t.Fatalf("in another order: %+v of %s", want, told(q))
			}
		}
		for without := range 8 {
			q := slices.DeleteFunc(slices.Clone(p), func(d api.Decl) bool {
				i := slices.Index([]api.DeclKind{api.DeParser, api.DeControl, api.DeDeparser}, d.Kind)
				return i >= 0 && without>>i&1 > 0
			})
			if want := holds(t, q); want.e != api.OK {
				t.Fatalf("without some: %+v of %s", want, told(q))
			}
		}
	}
	if fine < 2900 {
		t.Errorf("the sample says too little: %d", fine)
	}
}

// pool are other values for what stands at a place.
func pool(r *rand.Rand, p api.Program, v reflect.Value) (reflect.Value, bool) {
	of := func(x any) (reflect.Value, bool) { return reflect.ValueOf(x), true }
	switch old := v.Interface().(type) {
	case string:
		return of(pick(r, append(namesOf(p), "zz", "start", "accept", "reject", "port", "out", "crc16", "crc32", "meta")))
	case int:
		return of(pick(r, []int{0, 1, 2, old - 1, old + 1, 7, 8, 15, 16, 128, 129, 4096, 4097, 65535, 65536, 1<<31 - 1, -1}))
	case api.DeclKind:
		return of(api.DeclKind(r.IntN(int(api.DeDeparser) + 2)))
	case api.StmtKind:
		return of(api.StmtKind(r.IntN(int(api.StRound) + 2)))
	case api.Op:
		return of(api.Op(r.IntN(int(api.OpHash) + 2)))
	case api.KeyKind:
		return of(pick(r, []api.KeyKind{api.KePrefix, api.KePrefix, api.KeExact, api.KeNone}))
	case api.Bits:
		b, _ := bits.Of(pick(r, []int{old.W - 1, old.W + 1, 1 + r.IntN(128)}), r.Uint64(), r.Uint64())
		return of(b)
	case api.Program:
		return of(list(r, old))
	case []string:
		return of(list(r, old))
	case []api.Field:
		return of(list(r, old))
	case []api.State:
		return of(list(r, old))
	case []api.Key:
		return of(list(r, old))
	case []api.Bits:
		return of(list(r, old))
	case []api.Stmt:
		// A statement from elsewhere, so that one of a control comes to stand in an action.
		if all := stmtsOf(reflect.ValueOf(p)); len(all) > 0 && r.IntN(4) > 0 {
			return of(slices.Insert(slices.Clone(old), r.IntN(len(old)+1), pick(r, all)))
		}
		return of(list(r, old))
	case []api.Case:
		return of(list(r, old))
	case []api.Expr:
		return of(list(r, old))
	}
	return v, false
}

// list is one with one less, one twice, or two in each other's place.
func list[L ~[]T, T any](r *rand.Rand, old L) L {
	l := slices.Clone(old)
	if len(l) == 0 {
		return l
	}
	i, j := r.IntN(len(l)), r.IntN(len(l))
	switch r.IntN(3) {
	case 0:
		return slices.Delete(l, i, i+1)
	case 1:
		return slices.Insert(l, i, l[j])
	}
	l[i], l[j] = l[j], l[i]
	return l
}

func namesOf(p api.Program) []string {
	l := []string{"h0"}
	for _, d := range p {
		l = append(l, d.Name)
		for _, f := range d.Fields {
			l = append(l, f.Name)
		}
		for _, s := range d.States {
			l = append(l, s.Name)
		}
	}
	return l
}

// stmtsOf are all statements that v holds.
func stmtsOf(v reflect.Value) []api.Stmt {
	var l []api.Stmt
	switch v.Kind() {
	case reflect.Slice:
		for i := range v.Len() {
			l = append(l, stmtsOf(v.Index(i))...)
		}
	case reflect.Struct:
		if s, ok := v.Interface().(api.Stmt); ok {
			l = append(l, s)
		}
		for i := range v.NumField() {
			l = append(l, stmtsOf(v.Field(i))...)
		}
	}
	return l
}

// places are all that may be changed in what v holds, by their types; lines aside.
func places(v reflect.Value, out map[reflect.Type][]reflect.Value) {
	out[v.Type()] = append(out[v.Type()], v)
	switch v.Kind() {
	case reflect.Struct:
		for i := range v.NumField() {
			if v.Type().Field(i).Name != "Line" && v.Type() != reflect.TypeFor[api.Bits]() {
				places(v.Field(i), out)
			}
		}
	case reflect.Slice:
		for i := range v.Len() {
			places(v.Index(i), out)
		}
	}
}

// placeIn is a place of some type; mostly one that has something: what stands at others is mostly named by nothing, and with it there the tree is no text's.
func placeIn(r *rand.Rand, v reflect.Value) reflect.Value {
	all := map[reflect.Type][]reflect.Value{}
	places(v, all)
	kinds := slices.SortedFunc(maps.Keys(all), func(a, b reflect.Type) int { return cmp.Compare(a.String(), b.String()) })
	l := all[pick(r, kinds)]
	if r.IntN(20) > 0 {
		l = slices.DeleteFunc(l, reflect.Value.IsZero)
	}
	if len(l) == 0 {
		return v
	}
	return pick(r, l)
}

// turned has so many places changed.
func turned[T any](r *rand.Rand, p api.Program, x T, n int) T {
	x = copied(x, 0)
	for n > 0 {
		place := placeIn(r, reflect.ValueOf(&x).Elem())
		if other, ok := pool(r, p, place); ok {
			place.Set(other)
			x = copied(x, 0)
			n--
		}
	}
	return x
}

// rowsSeen are all rows by which the model may find a fault, but for those that need many parts.
func rowsSeen() []string {
	l := []string{"no text: 1", "declared ahead", "OpField", "OpParam", "OpValid", "OpSlice", "OpCast", "OpHash name", "OpCat", "state ahead", "no start", "state: header", "case: value", "case: mask", "case: target", "state: target"}
	for _, k := range singles {
		l = append(l, fmt.Sprintf("second %d", k))
	}
	for _, op := range []api.Op{api.OpAdd, api.OpSub, api.OpMul, api.OpAnd, api.OpOr, api.OpXor, api.OpEq, api.OpNe, api.OpLt, api.OpLe, api.OpBoth, api.OpAny} {
		l = append(l, fmt.Sprintf("operation %d", op))
	}
	for k, rows := range map[api.StmtKind][]string{
		api.StSet: {"field", "width"}, api.StIf: {"width"}, api.StApply: {"in an action", "name", "ahead"}, api.StCall: {"in an action", "name", "args", "width"}, api.StMake: {"name"}, api.StGone: {"name"}, api.StCount: {"name"},
		api.StRead: {"field", "name", "width"}, api.StMeter: {"field", "name", "width"}, api.StWrite: {"name", "width"}, api.StRandom: {"field"}, api.StClone: {"group"},
	} {
		for _, row := range rows {
			l = append(l, fmt.Sprintf("statement %d: %s", k, row))
		}
	}
	for k, rows := range map[api.DeclKind][]string{
		api.DeHeader: {"no field", "field ahead", "width", "bytes"}, api.DeMeta: {"field ahead", "width"}, api.DeAction: {"field ahead", "width"}, api.DeRegister: {"width", "cells"}, api.DeCounter: {"cells"}, api.DeMeter: {"cells", "rate", "burst"},
		api.DeTable: {"second prefix", "action", "action ahead", "default", "args", "arg's width", "size"}, api.DeDeparser: {"name", "ahead"},
	} {
		for _, row := range rows {
			l = append(l, fmt.Sprintf("declaration %d: %s", k, row))
		}
	}
	return l
}

// TestTurnedPrograms: programs with some places changed, against the model; and in another order they may be just if they may be.
func TestTurnedPrograms(t *testing.T) { // P10.1, P10.3
	r := dice()
	seen := map[string]int{}
	for n := range 20000 {
		p := made(r, n%40)
		p = turned(r, p, p, 1+n%3)
		want := holds(t, p)
		seen[want.row]++
		r.Shuffle(len(p), reflect.Swapper(p))
		if other := holds(t, p); (other.e == api.OK) != (want.e == api.OK) {
			t.Fatalf("%+v, in another order %+v of %s", want, other, told(p))
		}
	}
	for _, row := range append(rowsSeen(), "") {
		if seen[row] < 2 {
			t.Errorf("the sample says too little of %q: %d", row, seen[row])
		}
	}
}

// TestMadeUpExpressions: how wide they are, and of ones with places changed what the model says.
func TestMadeUpExpressions(t *testing.T) { // P10.2
	r := dice()
	seen := map[api.Errno]int{}
	for n := range 20000 {
		p := made(r, 10)
		m := &maker{Rand: r, p: p, left: n % 30}
		m.params = m.fields("p", r.IntN(4))
		w := m.width()
		x := m.expr(w)
		widthIs(t, p, m.params, x, w, api.OK)
		x = turned(r, append(p, api.Decl{Fields: m.params}), x, 1+n%2)
		if n%10 == 0 {
			m.params = turned(r, p, m.params, 1)
		}
		if n%20 == 0 {
			p = turned(r, p, p, 1)
		}
		w, e := modelWidth(p, m.params, x)
		widthIs(t, p, m.params, x, w, e)
		seen[e]++
		if t.Failed() {
			t.Fatalf("of %.4000s with %+v", told(p), m.params)
		}
	}
	for _, e := range []api.Errno{api.OK, api.ErrArg, api.ErrName, api.ErrWidth} {
		if seen[e] < 500 {
			t.Errorf("the sample says too little: %v", seen)
		}
	}
}

// numberOf is what bits.Do makes of an expression of numbers alone, or its first error.
func numberOf(x api.Expr) (api.Bits, api.Errno) {
	if x.Op == api.OpLit {
		return x.Lit, api.OK
	}
	var of [2]api.Bits
	for i, a := range x.Args {
		b, e := numberOf(a)
		if e != api.OK {
			return b, e
		}
		of[i] = b
	}
	return bits.Do(x.Op, of[0], of[1], x.N, x.M)
}

// TestNumbersAlone: an expression of numbers is as wide as the number that comes of it, and has an error where that has.
func TestNumbersAlone(t *testing.T) { // P10.3
	r := dice()
	m := &maker{Rand: r}
	var number func(deep int) api.Expr
	number = func(deep int) api.Expr {
		if deep == 0 || r.IntN(4) == 0 {
			return api.Expr{Op: api.OpLit, Lit: m.lit(pick(r, []int{1, 8, 8, 8, 64, 65, 128}))}
		}
		x := api.Expr{Op: api.OpAdd + api.Op(r.IntN(int(api.OpHash-api.OpAdd))), Args: []api.Expr{number(deep - 1)}}
		switch x.Op {
		case api.OpNot:
		case api.OpSlice:
			x.N, x.M = pick(r, []int{0, 1, 7, 8, 127, 128}), pick(r, []int{0, 1, 2, 7, 8})
		case api.OpCast:
			x.N = pick(r, []int{0, 1, 8, 128, 129})
		default:
			x.Args = append(x.Args, number(deep-1))
			if r.IntN(2) == 0 {
				x.Args[1] = copied(x.Args[0], 0)
			}
		}
		return x
	}
	seen := map[api.Errno]int{}
	for range 60000 {
		x := number(1 + r.IntN(4))
		b, e := numberOf(x)
		widthIs(t, nil, nil, x, b.W, e)
		seen[e]++
		m.left, m.params = 20, nil
		w := m.width()
		if x, ok := alone(m.expr(w)); ok {
			b, e := numberOf(x)
			widthIs(t, nil, nil, x, w, e)
			if b.W != w {
				t.Errorf("%s is %d wide, not %d", told(x), b.W, w)
			}
			seen[e]++
		}
		if t.Failed() {
			return
		}
	}
	if seen[api.OK] < 10000 || seen[api.ErrArg] < 1000 || seen[api.ErrWidth] < 1000 {
		t.Errorf("the sample says too little: %v", seen)
	}
}

// alone says whether an expression is of numbers alone.
func alone(x api.Expr) (api.Expr, bool) {
	ok := x.Op != api.OpField && x.Op != api.OpHash
	for _, a := range x.Args {
		_, of := alone(a)
		ok = ok && of
	}
	return x, ok
}

// filled lays something else into the spare room of all lists.
func filled(v reflect.Value) {
	switch v.Kind() {
	case reflect.Slice:
		for i := range v.Len() {
			filled(v.Index(i))
		}
		room := v.Slice(0, v.Cap())
		for i := v.Len(); i < v.Cap() && v.Len() > 0; i++ {
			room.Index(i).Set(v.Index(0))
		}
	case reflect.Struct:
		for i := range v.NumField() {
			filled(v.Field(i))
		}
	}
}

// whole is what v holds with the spare room of all lists as part of them.
func whole(v reflect.Value) reflect.Value {
	out := reflect.New(v.Type()).Elem()
	switch v.Kind() {
	case reflect.Slice:
		l := v.Slice(0, v.Cap())
		out.Set(reflect.MakeSlice(v.Type(), l.Len(), l.Len()))
		for i := range l.Len() {
			// What lies in spare room is the first of the list once more, with lists that were asked already.
			if i < v.Len() {
				out.Index(i).Set(whole(l.Index(i)))
			} else {
				out.Index(i).Set(l.Index(i))
			}
		}
	case reflect.Struct:
		for i := range v.NumField() {
			out.Field(i).Set(whole(v.Field(i)))
		}
	default:
		out.Set(v)
	}
	return out
}

// handed is all that Width is handed.
type handed struct {
	Program api.Program
	Params  []api.Field
	Expr    api.Expr
}

func TestNothingIsChanged(t *testing.T) { // R4, R5
	r := dice()
	for n := range 600 {
		m := &maker{Rand: r, p: made(r, 40), left: 10}
		m.params = m.fields("p", r.IntN(4))
		h := handed{m.p, m.params, m.expr(m.width())}
		if n%2 == 0 {
			h = turned(r, h.Program, h, 1)
		}
		line, e := types.Check(h.Program)
		width, f := types.Width(h.Program, h.Params, h.Expr)
		h = copied(h, 2)
		v := reflect.ValueOf(&h).Elem()
		filled(v)
		before := whole(v).Interface()
		for range 2 {
			if m, g := types.Check(h.Program); m != line || g != e {
				t.Fatalf("Check = %d, %d, want %d, %d", m, g, line, e)
			}
			widthIs(t, h.Program, h.Params, h.Expr, width, f)
			if !reflect.DeepEqual(whole(v).Interface(), before) {
				t.Fatalf("what was handed in is changed: %s, it was %s", told(whole(v).Interface()), told(before))
			}
		}
	}
}
