package code_test

import (
	"fmt"
	"math"
	"math/rand/v2"
	"reflect"
	"slices"
	"strings"
	"sync"
	"testing"

	"pointsman/api"
	"pointsman/code"
	"pointsman/lower"
)

// dice are alike on every run.
func dice() *rand.Rand { return rand.New(rand.NewPCG(12, 18)) }

func pick[T any](r *rand.Rand, l []T) T { return l[r.IntN(len(l))] }

// rebuilt is a copy of its own, whose lists a function makes room for.
func rebuilt[T any](x T, room func(v reflect.Value) reflect.Value) T {
	return rebuiltValue(reflect.ValueOf(&x).Elem(), room).Interface().(T)
}

func rebuiltValue(v reflect.Value, room func(v reflect.Value) reflect.Value) reflect.Value {
	out := reflect.New(v.Type()).Elem()
	switch v.Kind() {
	case reflect.Slice:
		out.Set(room(v))
		for i := range v.Len() {
			out.Index(i).Set(rebuiltValue(v.Index(i), room))
		}
	case reflect.Struct:
		for i := range v.NumField() {
			out.Field(i).Set(rebuiltValue(v.Field(i), room))
		}
	default:
		out.Set(v)
	}
	return out
}

// copied has lists with so much spare room; with none, empty ones are nil.
func copied[T any](x T, spare int) T {
	return rebuilt(x, func(v reflect.Value) reflect.Value {
		if v.Len()+spare == 0 {
			return reflect.Zero(v.Type())
		}
		return reflect.MakeSlice(v.Type(), v.Len(), v.Len()+spare)
	})
}

// emptied has empty lists for those that are nil.
func emptied[T any](x T) T {
	return rebuilt(x, func(v reflect.Value) reflect.Value { return reflect.MakeSlice(v.Type(), v.Len(), v.Len()) })
}

// every is a program with something of each kind.
const every = `header h{a 8;b 16;} header g{c 4;d 1;e 3;} meta{m 8;f 1;} register r 16 4; register u 1 2; counter k 4; meter y 4 1 1;
parser{s{take g;go accept;} start{take h;select h.a+8w1{8w1:s;8w2&8wf:reject;else accept;}}}
action n(){} action o(p 8,q 16){h.a=p;meta.out=q;if p==8w1{drop;}} table t{key{h.a exact;h.b+16w1 mask;h.b prefix;} actions o n; default o(8w1,16w2); size 5;}
control{if valid g&&g.d{apply t;}else{o(h.a,h.b);}make g;gone h;count k[h.a];read h.b=r[meta.m];write u[1w1]=g.d;meter meta.f=y[2w1];
random g.e;drop;digest h.a,hash crc32(h.b);clone 3;again;round;g.c=~h.a[5:2];meta.m=cast 8(h.b++h.a);n();}
deparser{g;h;}`

// texts are of programs that may be: small ones, and as great as there are.
func texts() []string {
	const h = "header h{a 1;b 7;} register r 7 1; "
	fields := func(format, between string) string {
		var l []string
		for i := range api.MaxFields {
			l = append(l, strings.ReplaceAll(format, "#", fmt.Sprint(i)))
		}
		return strings.Join(l, between)
	}
	l := []string{
		"", "deparser{}", "header h{a 8;}", "header h { a 8; } parser { start { take h; go accept; } } deparser { h; }", every,
		h + "control{" + strings.Repeat("h.b=h.b;", 1000) + "}", h + "control{" + strings.Repeat("if h.a{random h.a;}else{random h.b;}", 600) + "}", h + "control{" + strings.Repeat("read h.b=r[h.b];", 1000) + "}",
		"header h{" + fields("a# 8;", "") + "} meta{" + fields("m# 1;", "") + "} action f(" + fields("p# 8", ",") + "){digest " + fields("p#", ",") + ";} table t{key{" + fields("h.a#^8w1 mask;", "") + "} actions f; default f(8w3" + strings.Repeat(",8w4", 63) + "); size 4096;} control{f(" + fields("h.a#", ",") + ");apply t;meta.out=hash crc16(" + fields("h.a#", ",") + ");} deparser{h;}",
	}
	for _, each := range []string{"header x#{a 8;} ", "register x# 128 1; ", "counter x# 1; ", "meter x# 1 1 1; ", "action x#(p 8){} "} {
		s := ""
		for i := range api.MaxDecls {
			s += strings.ReplaceAll(each, "#", fmt.Sprint(i))
		}
		l = append(l, s)
	}
	states := "parser{start{go s0;}"
	for i := range 2000 {
		states += fmt.Sprintf("s%d{go start;}", i)
	}
	return append(l, states+"}")
}

// TestOfPrograms: the code of every program that may be can do no harm.
func TestOfPrograms(t *testing.T) { // P12.1, P11.1
	for _, s := range texts() {
		_, c, line, e := lower.Of(s)
		if e != api.OK {
			t.Errorf("Of(%.200q): %d in line %d", s, e, line)
		}
		checks(t, fmt.Sprintf("the code of %.200q", s), c, true)
	}
}

// parts are the numbers and the lists of code.
func parts(v reflect.Value, numbers, lists *[]reflect.Value) {
	switch v.Kind() {
	case reflect.Slice:
		*lists = append(*lists, v)
		for i := range v.Len() {
			parts(v.Index(i), numbers, lists)
		}
	case reflect.Struct:
		for i := range v.NumField() {
			parts(v.Field(i), numbers, lists)
		}
	case reflect.Int, reflect.Uint8, reflect.Uint64:
		*numbers = append(*numbers, v)
	}
}

// spoil makes a number or a list of code another one, mostly one that is near it, or that stands elsewhere.
func spoil(r *rand.Rand, c *api.Code) {
	var numbers, lists []reflect.Value
	parts(reflect.ValueOf(c).Elem(), &numbers, &lists)
	if len(numbers) == 0 || r.IntN(4) == 0 {
		spoilList(r, pick(r, lists))
		return
	}
	v := pick(r, numbers)
	switch v.Kind() {
	case reflect.Int:
		ints := slices.DeleteFunc(slices.Clone(numbers), func(v reflect.Value) bool { return v.Kind() != reflect.Int })
		v.SetInt(pick(r, []int64{v.Int() + 1, v.Int() - 1, v.Int() + 1, v.Int() - 1, 0, 1, -1, 8, 16, pick(r, ints).Int(), pick(r, ints).Int(), int64(r.IntN(130)), math.MaxInt64, math.MinInt64}))
	case reflect.Uint8:
		v.SetUint(pick(r, []uint64{uint64(r.IntN(26)), uint64(r.IntN(26)), (v.Uint() + 1) % 256, 255}))
	default:
		v.SetUint(pick(r, []uint64{0, 1, math.MaxUint64, 1 << r.IntN(64)}))
	}
}

// spoilList takes one away, or lays one of the list, or an empty one, behind; or turns it round.
func spoilList(r *rand.Rand, v reflect.Value) {
	n := v.Len()
	if n == 0 || r.IntN(5) == 0 {
		v.Set(reflect.Append(v, reflect.Zero(v.Type().Elem())))
		return
	}
	at := r.IntN(n)
	switch r.IntN(4) {
	case 0:
		v.Set(reflect.AppendSlice(v.Slice3(0, at, at), v.Slice(at+1, n)))
	case 1:
		v.Set(reflect.Append(v, v.Index(at)))
	case 2:
		reflect.Swapper(v.Interface())(at, r.IntN(n))
	default:
		v.Set(v.Slice3(0, at, at))
	}
}

// TestSpoilt: code in which something is another one may be, if the model says so.
func TestSpoilt(t *testing.T) { // P12.1, R1
	t.Parallel()
	r := dice()
	seen := map[bool]int{}
	bases := []api.Code{whole(), whole(), {Slots: []int{16, 16}, Meta: []int{0, 1}}}
	for _, s := range []string{every, "header h { a 8; } parser { start { take h; go accept; } } deparser { h; }"} {
		_, c, _, _ := lower.Of(s)
		bases = append(bases, c)
	}
	for range 60000 {
		c := copied(pick(r, bases), 0)
		for range 1 + r.IntN(2) {
			spoil(r, &c)
		}
		ok := len(faultsOf(c)) == 0
		seen[ok]++
		if e := code.Check(c); (e == api.OK) != ok || !ok && e != api.ErrForm {
			t.Fatalf("Check(%+v) = %d; the model: %q", c, e, faultsOf(c))
		}
	}
	if seen[true] < 5000 || seen[false] < 20000 {
		t.Errorf("the sample says too little: %v", seen)
	}
}

// anything is a value of any content, whose lists have at most so many.
func anything(r *rand.Rand, v reflect.Value, most int) {
	switch v.Kind() {
	case reflect.Slice:
		v.Set(reflect.MakeSlice(v.Type(), r.IntN(most+1), most))
		for i := range v.Len() {
			anything(r, v.Index(i), most)
		}
	case reflect.Struct:
		for i := range v.NumField() {
			anything(r, v.Field(i), most)
		}
	case reflect.Int:
		v.SetInt(pick(r, []int64{int64(r.IntN(4)), int64(r.IntN(130)) - 1, math.MaxInt64, math.MinInt64, int64(r.Uint64())}))
	case reflect.Uint8:
		v.SetUint(uint64(r.IntN(256)))
	case reflect.Uint64:
		v.SetUint(r.Uint64())
	}
}

// TestAnything: whatever there is in code, there is an answer.
func TestAnything(t *testing.T) { // P12.1, R1
	r := dice()
	for n := range 3000 {
		var c api.Code
		anything(r, reflect.ValueOf(&c).Elem(), 1+n%4)
		checks(t, c, c, false)
		// The same with slots and metadata that may be, so that all else is asked.
		c.Slots, c.Meta = list(300, 16), []int{298, 299}
		checks(t, c, c, len(faultsOf(c)) == 0)
	}
}

// TestLong: lists that are far too long are no code, or are gone through.
func TestLong(t *testing.T) { // P12.1, R1
	const n = 3000000
	for i, edit := range []func(c *api.Code){
		func(c *api.Code) { c.Slots = list(n, 1) }, func(c *api.Code) { c.Heads = make([]api.Head, n) }, func(c *api.Code) { c.Heads[0].Slots = list(n, octet) }, func(c *api.Code) { c.Meta = append(c.Meta, make([]int, n)...) },
		func(c *api.Code) { c.Acts = make([]api.Act, n) }, func(c *api.Code) { c.Acts[1].Params = make([]int, n) }, func(c *api.Code) { c.Arrays = make([]api.Arr, n) }, func(c *api.Code) { c.Emits = make([]int, n) }, func(c *api.Code) { c.States = make([]api.Node, n) },
		func(c *api.Code) { c.Tables[0].Keys, c.Tables[0].Kinds = make([]int, n), list(n, api.KeExact) }, func(c *api.Code) { c.Tables[0].Kinds = list(n, api.KePrefix) }, func(c *api.Code) { c.Tables[0].Actions = make([]int, n) }, func(c *api.Code) { c.Tables[0].Args = make([]api.Bits, n) },
		func(c *api.Code) { c.Main = append(c.Main, api.Ins{Op: api.InDigest, L: make([]int, n)}) }, func(c *api.Code) { c.Main[3].L = make([]int, n) }, func(c *api.Code) { c.Main[10].L = make([]int, n) }, func(c *api.Code) { c.Main = make([]api.Ins, n/10) },
	} {
		if e := code.Check(spoilt(edit)); e != api.ErrForm {
			t.Errorf("edit %d: Check says %d", i, e)
		}
	}
	// A node takes as many heads, and has as many cases, as it likes.
	c := spoilt(func(c *api.Code) {
		c.States[0].Heads, c.States[0].Cases = make([]int, n), list(n, c.States[0].Cases[0])
	})
	if e := code.Check(c); e != api.OK {
		t.Errorf("heads and cases: Check says %d", e)
	}
}

// filled lays something else into the spare room of all lists.
func filled(v reflect.Value) {
	switch v.Kind() {
	case reflect.Slice:
		for i := range v.Len() {
			filled(v.Index(i))
		}
		room := v.Slice(0, v.Cap())
		for i := v.Len(); i < v.Cap() && v.Len() > 0; i++ {
			room.Index(i).Set(v.Index(0))
		}
	case reflect.Struct:
		for i := range v.NumField() {
			filled(v.Field(i))
		}
	}
}

// roomOf is what v holds, the spare room of all lists being part of them.
func roomOf(v reflect.Value) any {
	var l []any
	switch v.Kind() {
	case reflect.Slice:
		room := v.Slice(0, v.Cap())
		for i := range room.Len() {
			if i < v.Len() {
				l = append(l, roomOf(v.Index(i)))
			} else {
				l = append(l, room.Index(i).Interface())
			}
		}
	case reflect.Struct:
		for i := range v.NumField() {
			l = append(l, roomOf(v.Field(i)))
		}
	default:
		return v.Interface()
	}
	return l
}

// TestMemory: what is handed in stays as it was, its spare room too, and nothing of it is kept.
func TestMemory(t *testing.T) { // R4, R5
	r := dice()
	for n := range 400 {
		c := copied(whole(), 2)
		if n > 0 {
			spoil(r, &c)
		}
		filled(reflect.ValueOf(&c).Elem())
		want := code.Check(copied(c, 0))
		before := roomOf(reflect.ValueOf(copiedRoom(c)))
		if first, second := code.Check(c), code.Check(c); first != want || second != want {
			t.Fatalf("Check(%+v) = %d and %d, want %d", c, first, second, want)
		}
		if !reflect.DeepEqual(roomOf(reflect.ValueOf(c)), before) {
			t.Fatalf("what was handed in is changed: %+v", c)
		}
	}
	// The same list, once with a slot that is none.
	c := whole()
	for range 3 {
		checks(t, "the whole", c, true)
		c.Main[6].A = slots
		checks(t, "the whole, with an instruction of no slot", c, false)
		c.Main[6].A = octet
	}
}

// copiedRoom is a copy of its own, spare room too.
func copiedRoom[T any](x T) T {
	return rebuilt(x, func(v reflect.Value) reflect.Value {
		out := reflect.MakeSlice(v.Type(), v.Cap(), v.Cap())
		reflect.Copy(out, v.Slice(0, v.Cap()))
		return out.Slice(0, v.Len())
	})
}

// TestAlike: a list that stands in several places is asked in each.
func TestAlike(t *testing.T) { // P12.1, R4
	l := []api.Ins{{Op: api.InMove, To: spare, A: octet}}
	c := spoilt(func(c *api.Code) {
		for _, p := range places {
			p.put(c, l)
		}
	})
	checks(t, "one list everywhere", c, true)
	l[0].A = port
	checks(t, "one list everywhere, spoilt", c, false)
}

func TestManyAtOnce(t *testing.T) { // R5
	c, wrong := whole(), spoilt(func(c *api.Code) { c.Main[0].N = 2 })
	var group sync.WaitGroup
	for range 16 {
		group.Go(func() {
			for range 50 {
				if e, f := code.Check(c), code.Check(wrong); e != api.OK || f != api.ErrForm {
					t.Errorf("Check = %d and %d", e, f)
				}
			}
		})
	}
	group.Wait()
}

func BenchmarkCheck(b *testing.B) {
	c := whole()
	for b.Loop() {
		code.Check(c)
	}
}
