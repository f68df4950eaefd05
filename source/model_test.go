package source_test

import (
	"fmt"
	"math/big"
	"slices"
	"strconv"
	"strings"
	"testing"

	"pointsman/api"
	"pointsman/print"
	"pointsman/source"
	"pointsman/sums"
)

// model is a pass as the chapter says it, of whole numbers and of packets as texts of noughts and ones.
type model struct {
	p      api.Program
	w      api.World
	there  map[string]bool
	fields map[string]api.Bits // by header.field
	params map[string]api.Bits
	pass   api.Pass
	flags  map[api.StmtKind]bool
	acting bool
	seen   map[string]int // what came about, for those who ask whether a sample says enough
}

func whole(b api.Bits) *big.Int {
	n := new(big.Int).SetUint64(b.Hi)
	return n.Lsh(n, 64).Add(n, new(big.Int).SetUint64(b.Lo))
}

// cut is the number of w bits that is left of n.
func cut(w int, n *big.Int) api.Bits {
	n = new(big.Int).Mod(n, new(big.Int).Lsh(big.NewInt(1), uint(w)))
	hi := new(big.Int).Rsh(n, 64).Uint64()
	return api.Bits{W: w, Hi: hi, Lo: new(big.Int).And(n, new(big.Int).SetUint64(^uint64(0))).Uint64()}
}

// digits are a number's bits, the highest first.
func digits(b api.Bits) string { return fmt.Sprintf("%0*b", b.W, whole(b)) }

func ofDigits(s string) api.Bits {
	n, _ := new(big.Int).SetString("0"+s, 2)
	return cut(len(s), n)
}

// octets are the bytes of bits; behind them are noughts.
func octets(s string) []byte {
	s += strings.Repeat("0", (8-len(s)%8)%8)
	var b []byte
	for ; len(s) > 0; s = s[8:] {
		n, _ := strconv.ParseUint(s[:8], 2, 8)
		b = append(b, byte(n))
	}
	return b
}

func truth(b bool) api.Bits {
	if b {
		return api.Bits{W: 1, Lo: 1}
	}
	return api.Bits{W: 1}
}

func (m *model) decl(kind api.DeclKind, name string) api.Decl {
	for _, d := range m.p {
		if d.Kind == kind && d.Name == name {
			return d
		}
	}
	return api.Decl{}
}

func modelRun(p api.Program, w api.World, port int, b []byte) *model {
	m := &model{p: p, w: copied(w, 0), there: map[string]bool{"meta": true}, fields: map[string]api.Bits{"meta.port": {W: 16, Lo: uint64(port)}, "meta.out": {W: 16}}, flags: map[api.StmtKind]bool{}, seen: map[string]int{}}
	for _, d := range p {
		if d.Kind == api.DeHeader {
			m.clear(d.Name, d.Fields)
		}
	}
	m.clear("meta", m.decl(api.DeMeta, "").Fields)
	var left strings.Builder
	for _, x := range b {
		fmt.Fprintf(&left, "%08b", x)
	}
	end, rest := m.parse(left.String())
	m.pass.End = end
	if m.pass.End == api.EndSent {
		m.stmts(m.decl(api.DeControl, "").Body)
		m.finish(rest)
	}
	m.seen[fmt.Sprint("end ", m.pass.End)]++
	return m
}

func (m *model) clear(header string, fields []api.Field) {
	for _, f := range fields {
		m.fields[header+"."+f.Name] = api.Bits{W: f.W}
	}
}

func (m *model) parse(left string) (api.EndKind, string) {
	d := m.decl(api.DeParser, "")
	if d.Kind == api.DeNone {
		return api.EndSent, left
	}
	at := "start"
	for n := 0; at != "accept" && at != "reject"; n++ {
		if n == 256 {
			return api.EndSteps, ""
		}
		s := d.States[slices.IndexFunc(d.States, func(s api.State) bool { return s.Name == at })]
		for _, h := range s.Headers {
			for _, f := range m.decl(api.DeHeader, h).Fields {
				if len(left) < f.W {
					return api.EndShort, ""
				}
				m.fields[h+"."+f.Name] = ofDigits(left[:f.W])
				left = left[f.W:]
			}
			m.there[h] = true
		}
		at = m.leads(s)
	}
	if at == "reject" {
		return api.EndReject, ""
	}
	return api.EndSent, left
}

func (m *model) leads(s api.State) string {
	for _, x := range s.Select {
		v := whole(m.expr(x))
		for _, c := range s.Cases {
			mask := whole(c.Mask)
			if new(big.Int).And(v, mask).Cmp(new(big.Int).And(whole(c.Value), mask)) == 0 {
				m.seen["case"]++
				return c.To
			}
		}
		m.seen["else"]++
	}
	return s.To
}

func (m *model) finish(rest string) {
	out := ""
	for _, h := range m.decl(api.DeDeparser, "").Emits {
		for _, f := range m.decl(api.DeHeader, h).Fields {
			if m.there[h] {
				out += digits(m.fields[h+"."+f.Name])
			}
		}
	}
	m.pass.Packet = octets(out + rest)
	if len(m.pass.Packet) > 2048 {
		m.seen["too long"]++
		m.pass.Packet, m.flags[api.StDrop] = nil, true
	}
	if m.flags[api.StDrop] {
		m.pass.End = api.EndDropped
		return
	}
	m.pass.Port, m.pass.Again = int(m.fields["meta.out"].Lo), m.flags[api.StAgain]
	m.pass.Round = m.flags[api.StRound] && !m.pass.Again
}

func (m *model) exprs(l []api.Expr) []api.Bits {
	var out []api.Bits
	for _, x := range l {
		out = append(out, m.expr(x))
	}
	return out
}

func (m *model) expr(x api.Expr) api.Bits {
	m.seen[fmt.Sprint("op ", x.Op)]++
	args := m.exprs(x.Args)
	switch x.Op {
	case api.OpLit:
		return x.Lit
	case api.OpField:
		return m.fields[x.Name+"."+x.Field]
	case api.OpParam:
		return m.params[x.Name]
	case api.OpValid:
		return truth(m.there[x.Name])
	case api.OpHash:
		all := ""
		for _, b := range args {
			all += digits(b)
		}
		sum, _ := sums.Sum(slices.Index([]string{"", "crc16", "crc32", "csum16", "xor16"}, x.Name), octets(all))
		return sum
	case api.OpCat:
		return ofDigits(digits(args[0]) + digits(args[1]))
	case api.OpSlice:
		return cut(x.N-x.M+1, new(big.Int).Rsh(whole(args[0]), uint(x.M)))
	case api.OpCast:
		return cut(x.N, whole(args[0]))
	case api.OpNot:
		return cut(args[0].W, new(big.Int).Not(whole(args[0])))
	}
	return reckon(x.Op, args[0].W, whole(args[0]), whole(args[1]))
}

func reckon(op api.Op, w int, a, b *big.Int) api.Bits {
	n := new(big.Int)
	switch op {
	case api.OpAdd:
		n.Add(a, b)
	case api.OpSub:
		n.Sub(a, b)
	case api.OpMul:
		n.Mul(a, b)
	case api.OpAnd:
		n.And(a, b)
	case api.OpOr:
		n.Or(a, b)
	case api.OpXor:
		n.Xor(a, b)
	case api.OpShl, api.OpShr:
		by := uint(200)
		if b.IsInt64() {
			by = uint(min(b.Int64(), 200))
		}
		if op == api.OpShl {
			n.Lsh(a, by)
		} else {
			n.Rsh(a, by)
		}
	case api.OpEq:
		return truth(a.Cmp(b) == 0)
	case api.OpNe:
		return truth(a.Cmp(b) != 0)
	case api.OpLt:
		return truth(a.Cmp(b) < 0)
	case api.OpLe:
		return truth(a.Cmp(b) <= 0)
	case api.OpBoth:
		return truth(a.Sign() > 0 && b.Sign() > 0)
	case api.OpAny:
		return truth(a.Sign() > 0 || b.Sign() > 0)
	}
	return cut(w, n)
}

func (m *model) tell(e api.Effect) { m.pass.Effects = append(m.pass.Effects, e) }

// set: the field is the value, if its header is there.
func (m *model) set(s api.Stmt, v api.Bits) {
	if !m.there[s.Name] {
		m.seen[fmt.Sprint("set ", s.Kind, " of no header")]++
		return
	}
	m.seen[fmt.Sprint("set ", s.Kind)]++
	m.fields[s.Name+"."+s.Field] = v
}

func (m *model) act(name string, args []api.Bits) {
	d := m.decl(api.DeAction, name)
	m.params, m.acting = map[string]api.Bits{}, true
	for i, f := range d.Fields {
		m.params[f.Name] = args[i]
	}
	m.stmts(d.Body)
	m.params, m.acting = nil, false
}

func (m *model) stmts(l []api.Stmt) {
	for _, s := range l {
		m.seen[fmt.Sprint("stmt ", s.Kind, " ", m.acting)]++
		m.stmt(s, m.exprs(s.Args))
	}
}

func (m *model) stmt(s api.Stmt, args []api.Bits) {
	switch s.Kind {
	case api.StSet:
		m.set(s, args[0])
	case api.StIf:
		m.seen[fmt.Sprint("if ", args[0].Lo)]++
		m.stmts(map[bool][]api.Stmt{true: s.Body, false: s.Else}[args[0].Lo == 1])
	case api.StApply:
		m.act(m.hit(m.decl(api.DeTable, s.Name)))
	case api.StCall:
		m.act(s.Name, args)
	case api.StMake:
		m.there[s.Name] = true
	case api.StGone:
		m.there[s.Name] = false
		m.clear(s.Name, m.decl(api.DeHeader, s.Name).Fields)
	case api.StCount, api.StRead, api.StWrite, api.StMeter:
		m.cell(s, args)
	case api.StRandom:
		v := m.random(m.fields[s.Name+"."+s.Field].W)
		m.set(s, v)
		m.tell(api.Effect{Kind: api.EfRandom, Value: v})
	case api.StDrop, api.StAgain, api.StRound:
		m.flags[s.Kind] = true
	case api.StDigest:
		m.tell(api.Effect{Kind: api.EfDigest, Data: args})
	case api.StClone:
		m.tell(api.Effect{Kind: api.EfClone, Group: s.N})
	}
}

// cell does a statement of a cell.
func (m *model) cell(s api.Stmt, args []api.Bits) {
	e := api.Effect{Kind: map[api.StmtKind]api.EffectKind{api.StCount: api.EfCount, api.StRead: api.EfRead, api.StWrite: api.EfWrite, api.StMeter: api.EfMeter}[s.Kind], Array: s.Name + s.Array}
	if s.Kind == api.StRead || s.Kind == api.StMeter {
		e.Array = s.Array
	}
	a := &m.w.Arrays[slices.IndexFunc(m.w.Arrays, func(a api.Array) bool { return a.Name == e.Array })]
	at := whole(args[0])
	if at.Cmp(big.NewInt(int64(len(a.Cells)))) >= 0 {
		m.seen[fmt.Sprint("no cell ", s.Kind)]++
		if s.Field != "" {
			m.set(s, api.Bits{W: m.fields[s.Name+"."+s.Field].W})
		}
		return
	}
	m.seen[fmt.Sprint("cell ", s.Kind)]++
	e.Cell = int(at.Int64())
	switch s.Kind {
	case api.StCount:
		a.Cells[e.Cell].Lo++
	case api.StRead:
		e.Value = a.Cells[e.Cell]
		m.set(s, e.Value)
	case api.StWrite:
		e.Value = args[1]
		a.Cells[e.Cell] = e.Value
	case api.StMeter:
		e.Value = m.token(a, e.Cell)
		m.set(s, e.Value)
	}
	m.tell(e)
}

func (m *model) token(a *api.Array, at int) api.Bits {
	for a.Last[at] < m.w.Now {
		a.Last[at]++
		a.Cells[at].Lo = min(a.Cells[at].Lo+uint64(a.Rate), uint64(a.Burst))
	}
	m.seen[fmt.Sprint("token ", a.Cells[at].Lo > 0)]++
	if a.Cells[at].Lo == 0 {
		return truth(false)
	}
	a.Cells[at].Lo--
	return truth(true)
}

func (m *model) random(w int) api.Bits {
	next := func() uint64 {
		m.w.Random = m.w.Random*6364136223846793005 + 1442695040888963407
		return m.w.Random
	}
	upper := next()
	return cut(w, whole(api.Bits{W: 128, Hi: upper, Lo: next()}))
}

// hit asks a table; it answers the action, and its args.
func (m *model) hit(d api.Decl) (string, []api.Bits) {
	rows := m.w.Tables[slices.IndexFunc(m.w.Tables, func(r api.Rows) bool { return r.Name == d.Name })]
	var keys []api.Bits
	for _, k := range d.Keys {
		keys = append(keys, m.expr(k.Expr))
	}
	best, weight := -1, -1
	for at, e := range rows.Entries {
		counts := e.Priority
		for i, k := range d.Keys {
			if !matches(k.Kind, e.Matches[i], keys[i]) {
				counts = -1
				break
			}
			if e.Priority == 0 && k.Kind == api.KePrefix {
				counts = e.Matches[i].Len
			}
		}
		if counts > weight {
			best, weight = at, counts
		}
	}
	m.tell(api.Effect{Kind: api.EfHit, Table: d.Name, Entry: best})
	m.seen[fmt.Sprint("hit ", best >= 0)]++
	if best < 0 {
		return rows.Default, rows.Args
	}
	return rows.Entries[best].Action, rows.Entries[best].Args
}

func matches(kind api.KeyKind, x api.Match, key api.Bits) bool {
	k, v, mask := whole(key), whole(x.Value), whole(x.Mask)
	switch kind {
	case api.KePrefix:
		return digits(key)[:x.Len] == digits(x.Value)[:x.Len]
	case api.KeMask:
		return new(big.Int).And(k, mask).Cmp(v) == 0
	case api.KeRange:
		return v.Cmp(k) <= 0 && k.Cmp(mask) <= 0
	}
	return k.Cmp(v) == 0
}

// sameRun asks for what the model says of a pass, and tells what came about.
func sameRun(t *testing.T, p api.Program, w api.World, port int, b []byte) *model {
	t.Helper()
	want := modelRun(p, w, port, b)
	got, behind, e := source.Run(p, w, port, b)
	if e != api.OK || !same(got, want.pass) || !same(behind, want.w) {
		t.Fatalf("%d, %.4000s\nwant %.4000s\nworld %.4000s\nwant %.4000s\nprogram %.4000s\npacket %x from %d", e, told(got), told(want.pass), told(behind), told(want.w), told(p), b, port)
	}
	return want
}

// wanted is what a sample of passes must have seen.
func wanted() []string {
	l := []string{"hit true", "hit false", "case", "else", "if 0", "if 1", "too long", "token true", "token false"}
	for op := api.OpLit; op <= api.OpHash; op++ {
		l = append(l, fmt.Sprint("op ", op))
	}
	for k := api.StSet; k <= api.StRound; k++ {
		l = append(l, fmt.Sprint("stmt ", k, " false"))
		if k != api.StApply && k != api.StCall {
			l = append(l, fmt.Sprint("stmt ", k, " true"))
		}
	}
	for _, k := range []api.StmtKind{api.StSet, api.StRead, api.StMeter, api.StRandom} {
		l = append(l, fmt.Sprint("set ", k), fmt.Sprint("set ", k, " of no header"))
	}
	for _, k := range []api.StmtKind{api.StCount, api.StRead, api.StWrite, api.StMeter} {
		l = append(l, fmt.Sprint("cell ", k), fmt.Sprint("no cell ", k))
	}
	for e := api.EndSent; e <= api.EndSteps; e++ {
		l = append(l, fmt.Sprint("end ", e))
	}
	return l
}

// TestMadeUpPrograms: passes of many packets through many programs, one behind the other in one world.
func TestMadeUpPrograms(t *testing.T) { // P15.2, P15.3
	t.Parallel()
	r := dice(1)
	seen := map[string]int{}
	for n := range 900 {
		m := made(r, n%50)
		if _, e := print.Text(m.p); e == api.ErrLimit {
			continue
		}
		for range 2 {
			w := m.world()
			for range 4 {
				ran := sameRun(t, m.p, w, r.IntN(65536), m.bytes())
				for k, n := range ran.seen {
					seen[k] += n
				}
				w = ran.w
				w.Now += r.IntN(3)
			}
		}
	}
	for _, k := range wanted() {
		if seen[k] < 10 {
			t.Errorf("the sample says too little of %q: %d", k, seen[k])
		}
	}
}

// TestWithoutParts: a program without its parser, its control, its deparser, and in another order.
func TestWithoutParts(t *testing.T) { // P15.2, P15.3
	t.Parallel()
	r := dice(2)
	for n := range 300 {
		m := made(r, n%30)
		if _, e := print.Text(m.p); e == api.ErrLimit {
			continue
		}
		all := m.p
		for without := range 8 {
			m.p = slices.DeleteFunc(slices.Clone(all), func(d api.Decl) bool {
				i := slices.Index([]api.DeclKind{api.DeParser, api.DeControl, api.DeDeparser}, d.Kind)
				return i >= 0 && without>>i&1 > 0
			})
			r.Shuffle(len(m.p), func(i, j int) { m.p[i], m.p[j] = m.p[j], m.p[i] })
			sameRun(t, m.p, m.world(), r.IntN(65536), m.bytes())
		}
	}
}
