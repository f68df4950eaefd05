package parse_test

import (
	"fmt"
	"math/rand/v2"
	"reflect"
	"slices"
	"strconv"
	"strings"
	"testing"

	"pointsman/api"
	"pointsman/parse"
)

// scribe makes up a tree, and writes its text at the same time: words with something idle behind each, so that line is that of the next word.
type scribe struct {
	*rand.Rand
	text strings.Builder
	line int
	left int // how many parts may still be made up
}

func (s *scribe) words(l ...string) {
	for _, w := range l {
		s.text.WriteString(w)
		idle := pick(s.Rand, []string{" ", "  ", "\t", "\n", "\n\n", " // ( so\n", "//\n\t"})
		// Behind these nothing need stand: none of them is the beginning of another word.
		if s.IntN(2) == 0 && strings.Contains("{}()[];:,.~^*-", w) {
			idle = ""
		}
		s.text.WriteString(idle)
		s.line += strings.Count(idle, "\n")
	}
}

func (s *scribe) name() string {
	n := pick(s.Rand, someNames)
	s.words(n)
	return n
}

func (s *scribe) whole() int {
	n := s.IntN(1 << s.IntN(31))
	s.words(strconv.Itoa(n))
	return n
}

func (s *scribe) lit() api.Bits {
	b := api.Bits{W: 1 + s.IntN(128)}
	b.Lo = s.Uint64() & ones(b.W).Lo
	if b.W > 64 && s.IntN(2) == 0 {
		b.Hi = s.Uint64() & ones(b.W).Hi
	}
	text := strconv.FormatUint(b.Lo, 16)
	if b.Hi > 0 {
		text = strconv.FormatUint(b.Hi, 16) + fmt.Sprintf("%016x", b.Lo)
	}
	s.words(strconv.Itoa(b.W) + "w" + text)
	return b
}

// ones is a number with all its bits set.
func ones(w int) api.Bits {
	b := api.Bits{W: w}
	for i := range w {
		if i < 64 {
			b.Lo |= 1 << i
		} else {
			b.Hi |= 1 << (i - 64)
		}
	}
	return b
}

func (s *scribe) field() (string, string) {
	name := "meta"
	if s.IntN(2) == 0 {
		name = s.name()
	} else {
		s.words("meta")
	}
	s.words(".")
	return name, s.name()
}

// times makes few things, or none.
func times[T any](s *scribe, thing func() T) []T {
	var l []T
	for s.left > 0 && s.IntN(3) > 0 {
		l = append(l, thing())
	}
	return l
}

// listed makes one thing or more with commas between.
func listed[T any](s *scribe, thing func() T) []T {
	l := []T{thing()}
	for s.left > 0 && s.IntN(2) > 0 {
		s.words(",")
		l = append(l, thing())
	}
	return l
}

// rows makes few things with a semicolon behind each.
func rows[T any](s *scribe, thing func() T) []T {
	return times(s, func() T {
		x := thing()
		s.words(";")
		return x
	})
}

func maybe[T any](s *scribe, things func() []T) []T {
	if s.IntN(3) == 0 {
		return nil
	}
	return things()
}

// The operations of two, loosest first.
var levels = [][]struct {
	sign string
	op   api.Op
}{
	{{"||", api.OpAny}},
	{{"&&", api.OpBoth}},
	{{"==", api.OpEq}, {"!=", api.OpNe}, {"<", api.OpLt}, {"<=", api.OpLe}},
	{{"&", api.OpAnd}, {"|", api.OpOr}, {"^", api.OpXor}},
	{{"+", api.OpAdd}, {"-", api.OpSub}},
	{{"++", api.OpCat}},
	{{"*", api.OpMul}},
	{{"<<", api.OpShl}, {">>", api.OpShr}},
}

func (s *scribe) expr() api.Expr { return s.level(0) }

func (s *scribe) exprs() []api.Expr { return listed(s, s.expr) }

func (s *scribe) level(n int) api.Expr {
	if n == len(levels) {
		return s.unary()
	}
	line := s.line
	x := s.level(n + 1)
	for s.left > 0 && s.IntN(8) == 0 {
		o := levels[n][s.IntN(len(levels[n]))]
		s.words(o.sign)
		x = api.Expr{Op: o.op, Args: []api.Expr{x, s.level(n + 1)}, Line: line}
		if levels[n][0].op == api.OpEq {
			break
		}
	}
	return x
}

func (s *scribe) unary() api.Expr {
	line := s.line
	if s.left > 0 && s.IntN(6) == 0 {
		s.words("~")
		return api.Expr{Op: api.OpNot, Args: []api.Expr{s.unary()}, Line: line}
	}
	x := s.prim()
	for s.IntN(6) == 0 {
		s.words("[")
		n := s.whole()
		s.words(":")
		m := s.whole()
		s.words("]")
		x = api.Expr{Op: api.OpSlice, N: n, M: m, Args: []api.Expr{x}, Line: line}
	}
	return x
}

func (s *scribe) prim() api.Expr {
	s.left--
	x := api.Expr{Line: s.line}
	kind := s.IntN(8)
	if s.left <= 0 {
		kind %= 4
	}
	switch kind {
	case 0:
		x.Op, x.Lit = api.OpLit, s.lit()
	case 1:
		x.Op = api.OpField
		x.Name, x.Field = s.field()
	case 2:
		x.Op, x.Name = api.OpParam, s.name()
	case 3:
		s.words("valid")
		x.Op, x.Name = api.OpValid, s.name()
	case 4:
		s.words("cast")
		x.Op, x.N = api.OpCast, s.whole()
		s.words("(")
		x.Args = []api.Expr{s.expr()}
		s.words(")")
	case 5:
		s.words("hash")
		x.Op, x.Name = api.OpHash, s.name()
		s.words("(")
		x.Args = s.exprs()
		s.words(")")
	default:
		s.words("(")
		x = s.expr()
		s.words(")")
	}
	return x
}

func (s *scribe) block() []api.Stmt {
	s.words("{")
	l := times(s, s.stmt)
	s.words("}")
	return l
}

func (s *scribe) cell() api.Expr {
	s.words("[")
	x := s.expr()
	s.words("]")
	return x
}

func (s *scribe) stmt() api.Stmt {
	s.left--
	x := api.Stmt{Kind: api.StSet + api.StmtKind(s.IntN(16)), Line: s.line}
	switch x.Kind {
	case api.StSet:
		x.Name, x.Field = s.field()
		s.words("=")
		x.Args = []api.Expr{s.expr()}
	case api.StIf:
		s.words("if")
		x.Args = []api.Expr{s.expr()}
		x.Body = s.block()
		if s.IntN(2) == 0 {
			s.words("else")
			x.Else = s.block()
		}
		return x
	case api.StCall:
		x.Name = s.name()
		s.words("(")
		x.Args = maybe(s, s.exprs)
		s.words(")")
	case api.StApply, api.StMake, api.StGone:
		s.words(map[api.StmtKind]string{api.StApply: "apply", api.StMake: "make", api.StGone: "gone"}[x.Kind])
		x.Name = s.name()
	case api.StCount:
		s.words("count")
		x.Name = s.name()
		x.Args = []api.Expr{s.cell()}
	case api.StRead, api.StMeter:
		s.words(map[api.StmtKind]string{api.StRead: "read", api.StMeter: "meter"}[x.Kind])
		x.Name, x.Field = s.field()
		s.words("=")
		x.Array = s.name()
		x.Args = []api.Expr{s.cell()}
	case api.StWrite:
		s.words("write")
		x.Array = s.name()
		at := s.cell()
		s.words("=")
		x.Args = []api.Expr{at, s.expr()}
	case api.StRandom:
		s.words("random")
		x.Name, x.Field = s.field()
	case api.StDrop, api.StAgain, api.StRound:
		s.words(map[api.StmtKind]string{api.StDrop: "drop", api.StAgain: "again", api.StRound: "round"}[x.Kind])
	case api.StDigest:
		s.words("digest")
		x.Args = s.exprs()
	case api.StClone:
		s.words("clone")
		x.N = s.whole()
	}
	s.words(";")
	return x
}

func (s *scribe) width() api.Field {
	s.left--
	name := s.name()
	return api.Field{Name: name, W: s.whole()}
}

func (s *scribe) widths() []api.Field { return listed(s, s.width) }

func (s *scribe) lits() []api.Bits { return listed(s, s.lit) }

func (s *scribe) taken() string {
	s.words("take")
	return s.name()
}

func (s *scribe) caseOf() api.Case {
	s.left--
	c := api.Case{Value: s.lit()}
	c.Mask = ones(c.Value.W)
	if s.IntN(2) == 0 {
		s.words("&")
		c.Mask = s.lit()
	}
	s.words(":")
	c.To = s.name()
	return c
}

func (s *scribe) state() api.State {
	s.left--
	x := api.State{Line: s.line}
	x.Name = s.name()
	s.words("{")
	x.Headers = rows(s, s.taken)
	if s.IntN(2) == 0 {
		s.words("go")
		x.To = s.name()
		s.words(";", "}")
		return x
	}
	s.words("select")
	x.Select = []api.Expr{s.expr()}
	s.words("{")
	x.Cases = rows(s, s.caseOf)
	s.words("else")
	x.To = s.name()
	s.words(";", "}", "}")
	return x
}

func (s *scribe) key() api.Key {
	k := api.Key{Expr: s.expr(), Kind: api.KeExact + api.KeyKind(s.IntN(4))}
	s.words([]string{"", "exact", "prefix", "mask", "range"}[k.Kind])
	return k
}

func (s *scribe) table(d *api.Decl) {
	d.Name = s.name()
	s.words("{", "key", "{")
	d.Keys = rows(s, s.key)
	s.words("}", "actions")
	d.Actions = append([]string{s.name()}, times(s, s.name)...)
	s.words(";", "default")
	d.Default = s.name()
	s.words("(")
	d.Args = maybe(s, s.lits)
	s.words(")", ";", "size")
	d.N = s.whole()
	s.words(";", "}")
}

func (s *scribe) decl() api.Decl {
	s.left--
	d := api.Decl{Kind: api.DeHeader + api.DeclKind(s.IntN(10)), Line: s.line}
	s.words([]string{"", "header", "meta", "register", "counter", "meter", "parser", "action", "table", "control", "deparser"}[d.Kind])
	switch d.Kind {
	case api.DeHeader:
		d.Name = s.name()
		fallthrough
	case api.DeMeta:
		s.words("{")
		d.Fields = rows(s, s.width)
		s.words("}")
	case api.DeRegister:
		d.Name = s.name()
		d.W = s.whole()
		d.N = s.whole()
		s.words(";")
	case api.DeCounter:
		d.Name = s.name()
		d.N = s.whole()
		s.words(";")
	case api.DeMeter:
		d.Name = s.name()
		d.N = s.whole()
		d.Rate = s.whole()
		d.Burst = s.whole()
		s.words(";")
	case api.DeParser:
		s.words("{")
		d.States = times(s, s.state)
		s.words("}")
	case api.DeAction:
		d.Name = s.name()
		s.words("(")
		d.Fields = maybe(s, s.widths)
		s.words(")")
		d.Body = s.block()
	case api.DeTable:
		s.table(&d)
	case api.DeControl:
		d.Body = s.block()
	case api.DeDeparser:
		s.words("{")
		d.Emits = rows(s, s.name)
		s.words("}")
	}
	return d
}

// made is a text, and the program that it has.
func made(r *rand.Rand, size int) (string, api.Program) {
	s := &scribe{Rand: r, left: size}
	s.words("//\n")
	s.line++
	var p api.Program
	for s.left > 0 {
		p = append(p, s.decl())
	}
	return s.text.String(), p
}

// told is the same of two trees just if they are the same: a list that is empty and none are told alike.
func told(p api.Program) string { return fmt.Sprintf("%+v", p) }

// has asks for the program of a text.
func has(t *testing.T, s string, want api.Program) {
	t.Helper()
	wantError := api.OK
	if parts, deep := sizeOf(reflect.ValueOf(want), 0); parts > api.MaxParts || deep > api.MaxDeep {
		want, wantError = nil, api.ErrLimit
	}
	if p, line, e := parse.Parse(s); told(p) != told(want) || line != 0 || e != wantError {
		t.Fatalf("Parse(%.2000q) = %d, %d\n%.9000s\nwant %d\n%.9000s", s, line, e, told(p), wantError, told(want))
	}
}

// sizeOf counts parts, and tells how deep the deepest one lies, by their types alone.
func sizeOf(v reflect.Value, deep int) (parts, deepest int) {
	deepest = deep
	add := func(within reflect.Value) {
		n, d := sizeOf(within, deep)
		parts, deepest = parts+n, max(deepest, d)
	}
	switch v.Kind() {
	case reflect.Slice:
		for i := range v.Len() {
			add(v.Index(i))
		}
	case reflect.Struct:
		switch v.Interface().(type) {
		case api.Decl, api.Field, api.State, api.Case, api.Stmt, api.Expr:
			parts++
			deep++
			deepest = deep
		}
		for i := range v.NumField() {
			add(v.Field(i))
		}
	}
	return parts, deepest
}

func TestTrees(t *testing.T) { // P8.1, P8.2
	r := dice()
	seen := map[api.DeclKind]int{}
	for n := range 8000 {
		s, p := made(r, n%100)
		has(t, s, p)
		for _, d := range p {
			seen[d.Kind]++
		}
	}
	for range 60 {
		s, p := made(r, 2000+r.IntN(2000))
		if len(s) <= api.MaxSource {
			has(t, s, p)
		}
	}
	if len(seen) != 10 {
		t.Errorf("the sample has no more kinds of declarations than %v", seen)
	}
}

func down(l []api.Expr, n int) []api.Expr {
	l = slices.Clone(l)
	for i := range l {
		l[i].Line += n
		l[i].Args = down(l[i].Args, n)
	}
	return l
}

func stmtsDown(l []api.Stmt, n int) []api.Stmt {
	l = slices.Clone(l)
	for i := range l {
		l[i].Line += n
		l[i].Args = down(l[i].Args, n)
		l[i].Body = stmtsDown(l[i].Body, n)
		l[i].Else = stmtsDown(l[i].Else, n)
	}
	return l
}

// moved is a program that stands n lines further down.
func moved(p api.Program, n int) api.Program {
	p = slices.Clone(p)
	for i := range p {
		d := &p[i]
		d.Line += n
		d.Body = stmtsDown(d.Body, n)
		d.States = slices.Clone(d.States)
		for j := range d.States {
			d.States[j].Line += n
			d.States[j].Select = down(d.States[j].Select, n)
		}
		d.Keys = slices.Clone(d.Keys)
		for j := range d.Keys {
			d.Keys[j].Expr = down([]api.Expr{d.Keys[j].Expr}, n)[0]
		}
	}
	return p
}

func TestTextsBelowOneAnother(t *testing.T) { // P8.2
	r := dice()
	for n := range 3000 {
		a, p := made(r, n%60)
		b, q := made(r, n%70)
		has(t, a+"\n"+b, slices.Concat(p, moved(q, strings.Count(a, "\n")+1)))
	}
}
