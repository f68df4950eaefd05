package code_test

import (
	"fmt"
	"reflect"

	"pointsman/api"
	"pointsman/bits"
	"pointsman/sums"
)

// judge is the model of Check: it notes all that chapter 12 says may not be in code, where Check stops at the first.
type judge struct {
	c      api.Code
	faults []string
	total  int // instructions
}

func (j *judge) must(ok bool, format string, args ...any) bool {
	if !ok {
		j.faults = append(j.faults, fmt.Sprintf(format, args...))
	}
	return ok
}

// within: a place of a list of n.
func within(at, n int) bool { return 0 <= at && at < n }

func (j *judge) slot(s int) bool {
	return j.must(within(s, len(j.c.Slots)), "no slot %d", s)
}

// wide: how wide a slot is; 0, if there is none.
func (j *judge) wide(s int) int {
	if !j.slot(s) {
		return 0
	}
	return j.c.Slots[s]
}

// lists: a number of things from least to most.
func (j *judge) lists(what string, n, least, most int) {
	j.must(least <= n && n <= most, "%d %s", n, what)
}

// faultsOf is all that may not be in code; none, if it can do no harm.
func faultsOf(c api.Code) []string {
	j := &judge{c: c}
	j.lists("slots", len(c.Slots), 0, api.MaxCode)
	for _, w := range c.Slots {
		j.must(1 <= w && w <= api.MaxWidth, "a slot %d wide", w)
	}
	j.owned()
	j.lists("arrays", len(c.Arrays), 0, api.MaxDecls)
	for _, a := range c.Arrays {
		ok := a.Kind == api.DeRegister && 1 <= a.W && a.W <= api.MaxWidth || (a.Kind == api.DeCounter || a.Kind == api.DeMeter) && a.W == 64
		j.must(ok, "array %+v", a)
	}
	j.unlike("emits", c.Emits, len(c.Heads))
	j.code("main", c.Main, true)
	for _, a := range c.Acts {
		j.code("act "+a.Name, a.Code, false)
	}
	j.lists("nodes", len(c.States), 0, api.MaxParts)
	for _, n := range c.States {
		j.node(n)
	}
	j.lists("tables", len(c.Tables), 0, api.MaxDecls)
	for _, t := range c.Tables {
		j.table(t)
	}
	j.lists("instructions", j.total, 0, api.MaxCode)
	return j.faults
}

// owned: the slots of Heads, Meta and Params.
func (j *judge) owned() {
	var all []int
	j.lists("heads", len(j.c.Heads), 0, api.MaxDecls)
	for _, h := range j.c.Heads {
		j.lists("slots of a head", len(h.Slots), 1, api.MaxFields)
		together := 0
		for _, s := range h.Slots {
			together += j.wide(s)
		}
		j.must(together%8 == 0, "a head of %d bits", together)
		all = append(all, h.Slots...)
	}
	j.lists("slots of meta", len(j.c.Meta), 2, api.MaxFields+2)
	for i, s := range j.c.Meta {
		j.must(j.wide(s) == 16 || i > 1, "slot %d of meta", i)
	}
	all = append(all, j.c.Meta...)
	j.lists("acts", len(j.c.Acts), 0, api.MaxDecls)
	for _, a := range j.c.Acts {
		j.lists("params", len(a.Params), 0, api.MaxFields)
		all = append(all, a.Params...)
	}
	j.unlike("fields", all, len(j.c.Slots))
}

// unlike: places of a list of n, no two the same.
func (j *judge) unlike(what string, l []int, n int) {
	seen := map[int]bool{}
	for _, x := range l {
		j.must(within(x, n), "%s: no %d", what, x)
		j.must(!seen[x], "%s: %d twice", what, x)
		seen[x] = true
	}
}

func (j *judge) node(n api.Node) {
	for _, h := range n.Heads {
		j.must(within(h, len(j.c.Heads)), "a node takes %d", h)
	}
	j.straight("node", n.Code)
	target := func(to int) { j.must(-2 <= to && to < len(j.c.States), "a node leads to %d", to) }
	target(n.To)
	if n.Slot == -1 {
		j.must(len(n.Cases) == 0, "cases of nothing")
		return
	}
	w := j.wide(n.Slot)
	for _, c := range n.Cases {
		j.must(bits.Check(c.Value) && c.Value.W == w && bits.Check(c.Mask) && c.Mask.W == w, "case %+v of %d bits", c, w)
		target(c.To)
	}
}

func (j *judge) table(t api.Table) {
	j.lists("keys", len(t.Keys), 0, api.MaxFields)
	j.must(len(t.Keys) == len(t.Kinds), "%d kinds of %d keys", len(t.Kinds), len(t.Keys))
	prefixes := 0
	for _, k := range t.Kinds {
		j.must(api.KeExact <= k && k <= api.KeRange, "kind %d", k)
		if k == api.KePrefix {
			prefixes++
		}
	}
	j.must(prefixes <= 1, "%d prefixes", prefixes)
	for _, s := range t.Keys {
		j.slot(s)
	}
	j.must(len(t.Actions) > 0, "no actions")
	j.unlike("actions", t.Actions, len(j.c.Acts))
	one := false
	for _, a := range t.Actions {
		one = one || a == t.Default
	}
	if j.must(one && within(t.Default, len(j.c.Acts)), "default %d", t.Default) {
		params := j.c.Acts[t.Default].Params
		if j.must(len(params) == len(t.Args), "%d args of %d params", len(t.Args), len(params)) {
			for i, a := range t.Args {
				j.must(bits.Check(a) && a.W == j.wide(params[i]), "arg %+v", a)
			}
		}
	}
	j.lists("entries", t.Size, 1, api.MaxCells)
	j.straight("before "+t.Name, t.Before)
}

func (j *judge) straight(where string, l []api.Ins) {
	for at, i := range l {
		j.must(api.InLit <= i.Op && i.Op <= api.InValid, "%s: op %d in straight code", where, i.Op)
		j.instruction(where, l, at, false)
	}
}

func (j *judge) code(where string, l []api.Ins, main bool) {
	for at := range l {
		j.instruction(where, l, at, main)
	}
}

// instruction: what its row names may be, and what it does not name is zero.
func (j *judge) instruction(where string, l []api.Ins, at int, main bool) {
	j.total++
	i := l[at]
	known := len(j.faults)
	rest := i
	rest.Op = 0
	switch i.Op {
	case api.InLit:
		j.must(bits.Check(i.Lit) && i.Lit.W == j.wide(i.To), "lit")
		rest.To, rest.Lit = 0, api.Bits{}
	case api.InMove:
		j.must(j.wide(i.To) == j.wide(i.A), "move")
		rest.To, rest.A = 0, 0
	case api.InOp:
		j.operation(i)
		rest.To, rest.By, rest.A, rest.B, rest.N, rest.M = 0, 0, 0, 0, 0, 0
	case api.InHash:
		j.must(sums.Width(i.N) > 0 && j.wide(i.To) == sums.Width(i.N), "hash")
		j.slots(i.L)
		rest.To, rest.N, rest.L = 0, 0, nil
	case api.InValid:
		j.must(j.wide(i.To) == 1 && within(i.N, len(j.c.Heads)), "valid")
		rest.To, rest.N = 0, 0
	case api.InMake, api.InGone:
		j.must(within(i.N, len(j.c.Heads)), "head")
		rest.N = 0
	case api.InCount, api.InRead, api.InWrite, api.InMeter:
		j.cell(i)
		rest.N, rest.A = 0, 0
		if i.Op == api.InWrite {
			rest.B = 0
		} else if i.Op != api.InCount {
			rest.To = 0
		}
	case api.InRandom:
		j.slot(i.To)
		rest.To = 0
	case api.InDrop, api.InAgain, api.InRound:
	case api.InDigest:
		j.slots(i.L)
		rest.L = nil
	case api.InClone:
		j.must(within(i.N, api.MaxGroup), "clone")
		rest.N = 0
	case api.InApply:
		j.must(main && within(i.N, len(j.c.Tables)), "apply")
		rest.N = 0
	case api.InCall:
		j.call(i, main)
		rest.N, rest.L = 0, nil
	case api.InJump, api.InUnless:
		j.must(at < i.N && i.N <= len(l), "jump")
		rest.N = 0
		if i.Op == api.InUnless {
			j.must(j.wide(i.A) == 1, "unless")
			rest.A = 0
		}
	default:
		j.must(false, "op")
	}
	j.must(len(rest.L) == 0, "slots that its row does not name")
	rest.L = nil
	j.must(reflect.DeepEqual(rest, api.Ins{}), "more than its row names")
	j.must(len(j.faults) == known, "%s %d: %+v", where, at, i)
}

func (j *judge) operation(i api.Ins) {
	two := true
	switch i.By {
	case api.OpNot, api.OpSlice, api.OpCast:
		two = false
		j.must(i.B == 0, "B")
	}
	j.must(i.By == api.OpSlice || i.M == 0, "M")
	j.must(i.By == api.OpSlice || i.By == api.OpCast || i.N == 0, "N")
	a, b := j.wide(i.A), 0
	if two {
		b = j.wide(i.B)
	}
	w := widthOf(i.By, a, b, i.N, i.M)
	j.must(w > 0 && w == j.wide(i.To), "operation")
}

// widthOf is how wide an operation's number is, as chapter 1 says; 0, if there is none. A width that is not asked for may be any.
func widthOf(by api.Op, a, b, n, m int) int {
	alike := func(w int) int {
		if a != b {
			return 0
		}
		return w
	}
	switch by {
	case api.OpAdd, api.OpSub, api.OpMul, api.OpAnd, api.OpOr, api.OpXor:
		return alike(a)
	case api.OpEq, api.OpNe, api.OpLt, api.OpLe:
		return alike(1)
	case api.OpBoth, api.OpAny:
		if a != 1 {
			return 0
		}
		return alike(1)
	case api.OpNot, api.OpShl, api.OpShr:
		return a
	case api.OpCat:
		if a+b <= api.MaxWidth {
			return a + b
		}
	case api.OpSlice:
		if within(m, n+1) && within(n, a) {
			return n - m + 1
		}
	case api.OpCast:
		if within(n-1, api.MaxWidth) {
			return n
		}
	}
	return 0
}

func (j *judge) slots(l []int) {
	j.lists("slots of an instruction", len(l), 1, api.MaxFields)
	for _, s := range l {
		j.slot(s)
	}
}

func (j *judge) cell(i api.Ins) {
	j.slot(i.A)
	if !j.must(within(i.N, len(j.c.Arrays)), "array") {
		return
	}
	a := j.c.Arrays[i.N]
	switch i.Op {
	case api.InCount:
		j.must(a.Kind == api.DeCounter, "no counter")
	case api.InRead:
		j.must(a.Kind == api.DeRegister && j.wide(i.To) == a.W, "read")
	case api.InWrite:
		j.must(a.Kind == api.DeRegister && j.wide(i.B) == a.W, "write")
	case api.InMeter:
		j.must(a.Kind == api.DeMeter && j.wide(i.To) == 1, "meter")
	}
}

func (j *judge) call(i api.Ins, main bool) {
	if !j.must(main && within(i.N, len(j.c.Acts)), "call") {
		return
	}
	params := j.c.Acts[i.N].Params
	if j.must(len(params) == len(i.L), "%d slots of %d params", len(i.L), len(params)) {
		for k, s := range i.L {
			j.must(j.wide(s) == j.wide(params[k]), "param %d", k)
		}
	}
}
