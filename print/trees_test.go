package print_test

import (
	"math"
	"math/rand/v2"
	"reflect"
	"strings"
	"testing"

	"pointsman/api"
	"pointsman/parse"
	"pointsman/print"
)

// dice are alike on every run.
func dice() *rand.Rand { return rand.New(rand.NewPCG(9, 17)) }

var (
	keyWords  = strings.Fields("header meta register counter meter parser action table control deparser key actions default size take go select else exact prefix mask range if apply make gone count read write random drop digest clone again round valid cast hash")
	goodNames = []string{"a", "b", "h", "x1", "_", "start", "accept", "crc16", "w", "Meta", "ifs", "_if", "A_9z", strings.Repeat("n", 255)}
	badNames  = []string{"", " ", "a ", " a", "5", "5a", "8w1", "a.b", "a-b", "a;", "a\n", "a//", "é", "a\x00", "\xff", "a b", "a 1; counter b", strings.Repeat("n", 256)}
	goodInts  = []int{0, 1, 8, 127, 128, 65536, math.MaxInt32}
	badInts   = []int{-1, math.MinInt32, math.MinInt, math.MaxInt32 + 1, math.MaxInt}
)

func pick[T any](r *rand.Rand, l []T) T { return l[r.IntN(len(l))] }

// maker makes up text's trees.
type maker struct {
	*rand.Rand
	left int // how many parts may still be made up
}

// some makes at least so many things.
func some[T any](m *maker, least int, thing func() T) []T {
	l := exactly(least, thing)
	for m.left > 0 && m.IntN(3) > 0 {
		l = append(l, thing())
	}
	return l
}

func exactly[T any](n int, thing func() T) []T {
	var l []T
	for range n {
		l = append(l, thing())
	}
	return l
}

func (m *maker) name() string { return pick(m.Rand, goodNames) }

func (m *maker) owner() string { return pick(m.Rand, []string{"meta", m.name()}) }

func (m *maker) whole() int { return m.IntN(1 << m.IntN(32)) }

func (m *maker) line() int { return int(m.Uint64()) }

func (m *maker) lit() api.Bits {
	b := ones(1 + m.IntN(128))
	b.Lo &= m.Uint64() >> m.IntN(64)
	if b.Hi &= m.Uint64(); m.IntN(2) == 0 {
		b.Hi = 0
	}
	return b
}

func (m *maker) field() api.Field {
	m.left--
	return api.Field{Name: m.name(), W: m.whole()}
}

func (m *maker) expr() api.Expr {
	m.left--
	x := api.Expr{Op: api.OpLit + api.Op(m.IntN(int(api.OpHash))), Line: m.line()}
	if m.left <= 0 {
		x.Op = api.OpLit + api.Op(m.IntN(4))
	}
	switch x.Op {
	case api.OpLit:
		x.Lit = m.lit()
	case api.OpField:
		x.Name, x.Field = m.owner(), m.name()
	case api.OpParam, api.OpValid:
		x.Name = m.name()
	case api.OpSlice:
		x.N, x.M, x.Args = m.whole(), m.whole(), exactly(1, m.expr)
	case api.OpCast:
		x.N, x.Args = m.whole(), exactly(1, m.expr)
	case api.OpHash:
		x.Name, x.Args = m.name(), some(m, 1, m.expr)
	case api.OpNot:
		x.Args = exactly(1, m.expr)
	default:
		x.Args = exactly(2, m.expr)
	}
	return x
}

func (m *maker) stmt() api.Stmt {
	m.left--
	s := api.Stmt{Kind: api.StSet + api.StmtKind(m.IntN(int(api.StRound))), Line: m.line()}
	switch s.Kind {
	case api.StSet:
		s.Name, s.Field, s.Args = m.owner(), m.name(), exactly(1, m.expr)
	case api.StIf:
		s.Args, s.Body, s.Else = exactly(1, m.expr), some(m, 0, m.stmt), some(m, 0, m.stmt)
	case api.StApply, api.StMake, api.StGone:
		s.Name = m.name()
	case api.StCall:
		s.Name, s.Args = m.name(), some(m, 0, m.expr)
	case api.StCount:
		s.Name, s.Args = m.name(), exactly(1, m.expr)
	case api.StRead, api.StMeter:
		s.Name, s.Field, s.Array, s.Args = m.owner(), m.name(), m.name(), exactly(1, m.expr)
	case api.StWrite:
		s.Array, s.Args = m.name(), exactly(2, m.expr)
	case api.StRandom:
		s.Name, s.Field = m.owner(), m.name()
	case api.StDigest:
		s.Args = some(m, 1, m.expr)
	case api.StClone:
		s.N = m.whole()
	}
	return s
}

func (m *maker) caseOf() api.Case {
	m.left--
	c := api.Case{Value: m.lit(), Mask: m.lit(), To: m.name()}
	switch m.IntN(3) {
	case 0:
		c.Mask = ones(c.Value.W)
	case 1:
		c.Mask = ones(c.Mask.W)
	}
	return c
}

func (m *maker) state() api.State {
	m.left--
	s := api.State{Name: m.name(), Headers: some(m, 0, m.name), To: m.name(), Line: m.line()}
	if m.IntN(2) == 0 {
		s.Select, s.Cases = exactly(1, m.expr), some(m, 0, m.caseOf)
	}
	return s
}

func (m *maker) key() api.Key {
	return api.Key{Expr: m.expr(), Kind: api.KeExact + api.KeyKind(m.IntN(4))}
}

func (m *maker) decl() api.Decl {
	m.left--
	d := api.Decl{Kind: api.DeHeader + api.DeclKind(m.IntN(int(api.DeDeparser))), Line: m.line()}
	switch d.Kind {
	case api.DeHeader:
		d.Name, d.Fields = m.name(), some(m, 0, m.field)
	case api.DeMeta:
		d.Fields = some(m, 0, m.field)
	case api.DeRegister:
		d.Name, d.W, d.N = m.name(), m.whole(), m.whole()
	case api.DeCounter:
		d.Name, d.N = m.name(), m.whole()
	case api.DeMeter:
		d.Name, d.N, d.Rate, d.Burst = m.name(), m.whole(), m.whole(), m.whole()
	case api.DeParser:
		d.States = some(m, 0, m.state)
	case api.DeAction:
		d.Name, d.Fields, d.Body = m.name(), some(m, 0, m.field), some(m, 0, m.stmt)
	case api.DeTable:
		d.Name, d.Keys, d.Actions, d.Default, d.Args, d.N = m.name(), some(m, 0, m.key), some(m, 1, m.name), m.name(), some(m, 0, m.lit), m.whole()
	case api.DeControl:
		d.Body = some(m, 0, m.stmt)
	case api.DeDeparser:
		d.Emits = some(m, 0, m.name)
	}
	return d
}

func made(r *rand.Rand, size int) api.Program {
	m := &maker{r, size}
	var p api.Program
	for m.left > 0 {
		p = append(p, m.decl())
	}
	return p
}

// changes are other values for what stands at a place, ones that may stand there and ones that may not.
func changes(v reflect.Value) []reflect.Value {
	var l []reflect.Value
	add := func(x any) { l = append(l, reflect.ValueOf(x)) }
	switch old := v.Interface().(type) {
	case string:
		for _, s := range []string{"", "a", old + "_", "meta", "if", "5", "a b", "a;", "é"} {
			add(s)
		}
	case int:
		for _, n := range append(append([]int{}, goodInts...), badInts...) {
			add(n)
		}
	case uint64:
		for _, n := range []uint64{0, 1, 255, 256, 1 << 63, math.MaxUint64} {
			add(n)
		}
	case api.DeclKind:
		for k := range api.DeDeparser + 3 {
			add(k)
		}
	case api.StmtKind:
		for k := range api.StRound + 3 {
			add(k)
		}
	case api.Op:
		for k := range api.OpHash + 3 {
			add(k)
		}
	case api.KeyKind:
		for k := range api.KeRange + 3 {
			add(k)
		}
	case []api.Field:
		l = lists(old, api.Field{Name: "a", W: 1})
	case []api.State:
		l = lists(old, api.State{Name: "a", To: "b"})
	case []api.Key:
		l = lists(old, api.Key{Expr: param("a"), Kind: api.KeMask})
	case []string:
		l = lists(old, "a")
	case []api.Bits:
		l = lists(old, api.Bits{W: 1})
	case []api.Stmt:
		l = lists(old, api.Stmt{Kind: api.StDrop})
	case []api.Case:
		l = lists(old, api.Case{Value: ones(1), Mask: ones(1), To: "a"})
	case []api.Expr:
		l = lists(old, param("a"))
	case api.Program:
		l = lists(old, api.Decl{Kind: api.DeMeta})
	}
	return l
}

func lists[L ~[]T, T any](old L, more T) []reflect.Value {
	var none T
	out := []L{nil, {}, {more}, {none}, {more, more}, {more, more, more}, append(old[:len(old):len(old)], more), append(L{more}, old...), append(L{none}, old...)}
	if len(old) > 0 {
		out = append(out, old[1:], old[:len(old)-1])
	}
	var l []reflect.Value
	for _, x := range out {
		l = append(l, reflect.ValueOf(x))
	}
	return l
}

// places are all that may be changed in what v holds, lines aside.
func places(v reflect.Value, out []reflect.Value) []reflect.Value {
	switch v.Kind() {
	case reflect.Struct:
		for i := range v.NumField() {
			if v.Type().Field(i).Name != "Line" {
				out = places(v.Field(i), out)
			}
		}
		return out
	case reflect.Slice:
		for i := range v.Len() {
			out = places(v.Index(i), out)
		}
	}
	return append(out, v)
}

// turned has so many places changed.
func turned(r *rand.Rand, p api.Program, n int) api.Program {
	p = clone(p)
	for range n {
		place := pick(r, places(reflect.ValueOf(&p).Elem(), nil))
		place.Set(pick(r, changes(place)))
		p = clone(p)
	}
	return p
}

// TestMadeUpPrograms: Text of text's trees, and Parse of that.
func TestMadeUpPrograms(t *testing.T) { // P9.1, P9.2
	r := dice()
	seen := map[api.Errno]int{}
	for n := range 4000 {
		size := n % 60
		if n%100 == 0 {
			size = n
		}
		p := made(r, size)
		holdsAs(t, p, true)
		s, e := print.Text(p)
		seen[e]++
		if e != api.OK {
			continue
		}
		if q, _, e := parse.Parse(s); e != api.OK || !same(p, q) {
			t.Fatalf("Parse of Text: %q, %d", s, e)
		}
	}
	if seen[api.OK] < 3000 || seen[api.ErrLimit] < 10 {
		t.Errorf("the sample says too little: %v", seen)
	}
}

// TestOneChange: of programs that have each row, each place as each other.
func TestOneChange(t *testing.T) { // P9.1
	seen := map[bool]int{}
	for _, s := range rowTexts {
		p := parsed(t, s)
		for i, place := range places(reflect.ValueOf(&p).Elem(), nil) {
			for j := range changes(place) {
				q := clone(p)
				place := places(reflect.ValueOf(&q).Elem(), nil)[i]
				place.Set(changes(place)[j])
				seen[holds(t, q)]++
			}
		}
	}
	if seen[true] < 2000 || seen[false] < 10000 {
		t.Errorf("the sample says too little: %v", seen)
	}
}

func TestTurnedPrograms(t *testing.T) { // P9.1
	r := dice()
	seen := map[bool]int{}
	for n := range 15000 {
		p := turned(r, made(r, n%30), 1+n%3)
		seen[holds(t, p)]++
	}
	if seen[true] < 1500 || seen[false] < 1500 {
		t.Errorf("the sample says too little: %v", seen)
	}
}

// TestUnlikeTexts: programs that are not the same have unlike texts, and those that are have one.
func TestUnlikeTexts(t *testing.T) { // P9.2
	r := dice()
	for n := range 4000 {
		p := made(r, 1+n%20)
		q := turned(r, p, 1)
		s, e := print.Text(p)
		u, f := print.Text(q)
		if e == api.OK && f == api.OK && (s == u) != same(p, q) {
			t.Fatalf("%q of %+v, %q of %+v", s, p, u, q)
		}
	}
	few := map[string]api.Program{}
	for range 30000 {
		p := made(r, 1+r.IntN(3))
		s, e := print.Text(p)
		if e != api.OK {
			continue
		}
		if q, ok := few[s]; ok && !same(p, q) {
			t.Fatalf("%q is the text of %+v and of %+v", s, p, q)
		}
		few[s] = p
	}
}
