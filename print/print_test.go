package print_test

import (
	"reflect"
	"slices"
	"strconv"
	"strings"
	"sync"
	"testing"

	"pointsman/api"
	"pointsman/parse"
	"pointsman/print"
)

func param(name string) api.Expr { return api.Expr{Op: api.OpParam, Name: name} }

func list[T any](l ...T) []T { return l }

// digestOf is a program that has an expression.
func digestOf(x ...api.Expr) api.Program { return controlOf(api.Stmt{Kind: api.StDigest, Args: x}) }

func controlOf(l ...api.Stmt) api.Program { return api.Program{{Kind: api.DeControl, Body: l}} }

func parsed(t *testing.T, s string) api.Program {
	t.Helper()
	p, line, e := parse.Parse(s)
	if e != api.OK {
		t.Fatalf("Parse(%.2000q): %d, %d", s, line, e)
	}
	return p
}

// tells asks for a program's text.
func tells(t *testing.T, p api.Program, want string) {
	t.Helper()
	if s, e := print.Text(p); s != want || e != api.OK {
		t.Errorf("Text = %.2000q, %d, want %.2000q", s, e, want)
	}
}

// fails asks for an error, and nothing beside it.
func fails(t *testing.T, p api.Program, want api.Errno) {
	t.Helper()
	if s, e := print.Text(p); s != "" || e != want {
		t.Errorf("Text(%d declarations) = %.2000q, %d, want %d", len(p), s, e, want)
	}
}

// rowTexts have each row of the chapter's tables, as it stands there.
var rowTexts = []string{
	"header h {\na 8;\nb 16;\n}\nheader e {\n}\n",
	"meta {\nm 8;\nn 2147483647;\n}\nmeta {\n}\n",
	"register r 8 4;\ncounter c 2;\nmeter y 1 2 3;\n",
	"parser {\ns {\ntake h;\ntake e;\ngo t;\n}\nt {\ngo accept;\n}\n}\nparser {\n}\n",
	"parser {\ns {\ntake h;\nselect h.a + 8w1 {\n8w1: t;\n8w2 & 8wf: u;\n8w2 & 4wf: u;\n8w1 & 9wff: s;\nelse accept;\n}\n}\nt {\nselect meta.port {\nelse reject;\n}\n}\n}\n",
	"action f(p 8, q 16) {\nh.a = p;\nmeta.m = q;\n}\naction g() {\n}\naction h(p 1) {\ndrop;\n}\n",
	"table t {\nkey {\nh.a + 8w1 exact;\nmeta.m prefix;\nvalid h mask;\n(~h.a) & 8wf range;\n}\nactions f g;\ndefault g(8w1, 1w0);\nsize 4;\n}\n",
	"table u {\nkey {\n}\nactions f;\ndefault f();\nsize 0;\n}\n",
	"control {\n}\ndeparser {\nh;\ne;\nh;\n}\ndeparser {\n}\n",
	"control {\nif valid h {\n}\nif h.a < 8w4 {\ndrop;\n} else {\nf(1w0, x[3:0]);\ng();\n}\nif a {\n} else {\nif b {\nagain;\n}\n}\n}\n",
	"control {\napply t;\nmake h;\ngone h;\ncount c[8w1 + a];\nread h.a = r[p];\nread meta.m = r[8w1];\nwrite r[p & q] = h.a << q;\nmeter meta.f = y[p];\nmeter h.a = y[~p];\n}\n",
	"control {\nrandom h.a;\nrandom meta.m;\ndrop;\nagain;\nround;\ndigest h.a;\ndigest a, b | c, 1w0;\nclone 0;\nclone 15;\n}\n",
	"control {\ndigest 128wffffffffffffffffffffffffffffffff, 65w10000000000000000, 64w8000000000000000, h.a, meta.out, p, valid h;\n}\n",
	"control {\ndigest a[7:0], a[3:2][1:0], h.a[0:0], 8w1[0:7], valid h[0:0], (~a)[1:0], (a + b)[1:0], cast 4(a)[1:0], hash x(a)[1:0];\n}\n",
	"control {\ndigest cast 16(a), cast 0(a + b), cast 1(~a), cast 1(cast 2(a));\ndigest hash crc16(a), hash x(a + b, ~c, hash y(d));\n}\n",
	"control {\ndigest ~a, ~(~a), ~(a + b), ~a[1:0], ~valid h, ~cast 1(a), ~hash x(a), ~8w1;\n}\n",
	"control {\ndigest a + b, a - b, a * b, a & b, a | b, a ^ b, a << b, a >> b, a ++ b, a == b, a != b, a < b, a <= b, a && b, a || b;\n}\n",
	"control {\ndigest (a + b) + c, a + (b + c), (a * b) + c, a + (b * c), (~a) ++ (~b), (a == b) == c, a || (b && c), a[1:0] << b[1:0], cast 1(a) + hash x(b);\n}\n",
}

func TestRows(t *testing.T) { // P9.1, P9.2
	for _, s := range rowTexts {
		tells(t, parsed(t, s), s)
	}
	all := strings.Join(rowTexts, "")
	tells(t, parsed(t, all), all)
	tells(t, nil, "")
	tells(t, api.Program{}, "")
}

func TestExamples(t *testing.T) { // P9.1
	for s, want := range map[string]string{
		"header h{a 8;b 16;}": "header h {\na 8;\nb 16;\n}\n",
		"control{if a.b==8w1&&~c.d{drop;}else{f(1w0,x[3:0]);}}":           "control {\nif (a.b == 8w1) && (~c.d) {\ndrop;\n} else {\nf(1w0, x[3:0]);\n}\n}\n",
		"parser{s{take h;select h.a{8w1&8wff:t;8w2&8wf:u;else accept;}}}": "parser {\ns {\ntake h;\nselect h.a {\n8w1: t;\n8w2 & 8wf: u;\nelse accept;\n}\n}\n}\n",
		// What is idle, brackets that need not be, and an Else without statements are not told.
		"control { // so\n\n\tif ((a)) { } else { } }":      "control {\nif a {\n}\n}\n",
		"control{digest ((a*b))+c, (a)[1:0], ~(a), (h.a);}": "control {\ndigest (a * b) + c, a[1:0], ~a, h.a;\n}\n",
		"control{digest a+b+c+d, a<<b*c, a&b==c||d, ~~a;}":  "control {\ndigest ((a + b) + c) + d, (a << b) * c, ((a & b) == c) || d, ~(~a);\n}\n",
	} {
		tells(t, parsed(t, s), want)
	}
	one := api.Expr{Op: api.OpLit, Lit: api.Bits{W: 8, Lo: 1}}
	fails(t, api.Program{{Kind: api.DeHeader}}, api.ErrArg)
	fails(t, digestOf(api.Expr{Op: api.OpAdd, Args: list(one)}), api.ErrArg)
	fails(t, api.Program{{Kind: api.DeParser, States: list(api.State{Name: "s", Select: list(one), Cases: list(api.Case{Value: one.Lit, To: "x"}), To: "x"})}}, api.ErrArg)
	fails(t, api.Program{{}}, api.ErrArg)
}

// namePlaces are programs that have a name at each place where one stands.
func namePlaces(n string) []api.Program {
	a := list(param("a"))
	field := list(api.Field{Name: n, W: 1})
	l := []api.Program{
		{{Kind: api.DeHeader, Name: n}}, {{Kind: api.DeRegister, Name: n}}, {{Kind: api.DeCounter, Name: n}}, {{Kind: api.DeMeter, Name: n}}, {{Kind: api.DeAction, Name: n}},
		{{Kind: api.DeHeader, Name: "h", Fields: field}}, {{Kind: api.DeMeta, Fields: field}}, {{Kind: api.DeAction, Name: "f", Fields: field}}, {{Kind: api.DeDeparser, Emits: list("h", n)}},
		{{Kind: api.DeTable, Name: n, Actions: list("a"), Default: "a"}}, {{Kind: api.DeTable, Name: "t", Actions: list("a", n), Default: "a"}}, {{Kind: api.DeTable, Name: "t", Actions: list("a"), Default: n}},
	}
	for _, s := range []api.State{{Name: n, To: "a"}, {Name: "s", To: n}, {Name: "s", Headers: list("h", n), To: "a"}, {Name: "s", Select: a, To: n}, {Name: "s", Select: a, Cases: list(api.Case{Value: ones(1), Mask: ones(1), To: n}), To: "a"}} {
		l = append(l, api.Program{{Kind: api.DeParser, States: list(s)}})
	}
	for _, s := range []api.Stmt{{Kind: api.StSet, Name: "h", Field: n, Args: a}, {Kind: api.StApply, Name: n}, {Kind: api.StCall, Name: n}, {Kind: api.StMake, Name: n}, {Kind: api.StGone, Name: n}, {Kind: api.StCount, Name: n, Args: a},
		{Kind: api.StRead, Name: "h", Field: n, Array: "r", Args: a}, {Kind: api.StRead, Name: "h", Field: "a", Array: n, Args: a}, {Kind: api.StMeter, Name: "meta", Field: n, Array: "r", Args: a}, {Kind: api.StMeter, Name: "h", Field: "a", Array: n, Args: a},
		{Kind: api.StWrite, Array: n, Args: list(a[0], a[0])}, {Kind: api.StRandom, Name: "meta", Field: n}} {
		l = append(l, controlOf(s))
	}
	for _, x := range []api.Expr{{Op: api.OpField, Name: "h", Field: n}, {Op: api.OpField, Name: "meta", Field: n}, {Op: api.OpParam, Name: n}, {Op: api.OpValid, Name: n}, {Op: api.OpHash, Name: n, Args: a}} {
		l = append(l, digestOf(x))
	}
	return l
}

// ownerPlaces are those at which `meta` may stand, too.
func ownerPlaces(n string) []api.Program {
	a := list(param("a"))
	l := []api.Program{digestOf(api.Expr{Op: api.OpField, Name: n, Field: "a"})}
	for _, s := range []api.Stmt{{Kind: api.StSet, Name: n, Field: "a", Args: a}, {Kind: api.StRead, Name: n, Field: "a", Array: "r", Args: a}, {Kind: api.StMeter, Name: n, Field: "a", Array: "r", Args: a}, {Kind: api.StRandom, Name: n, Field: "a"}} {
		l = append(l, controlOf(s))
	}
	return l
}

func TestNames(t *testing.T) { // P9.1
	if len(keyWords) != 38 {
		t.Fatalf("%d key words", len(keyWords))
	}
	for _, n := range append(slices.Clone(badNames), keyWords...) {
		for _, p := range namePlaces(n) {
			fails(t, p, api.ErrArg)
		}
		for _, p := range ownerPlaces(n) {
			if n == "meta" {
				tells(t, p, written(p))
			} else {
				fails(t, p, api.ErrArg)
			}
		}
	}
	for _, n := range goodNames {
		for _, p := range append(namePlaces(n), ownerPlaces(n)...) {
			tells(t, p, written(p))
		}
	}
}

// TestBytesOfNames: each byte alone, behind a letter, between letters, and each two.
func TestBytesOfNames(t *testing.T) { // P9.1
	const letters = "abcdefghijklmnopqrstuvwxyzABCDEFGHIJKLMNOPQRSTUVWXYZ_"
	asked := func(name string, ok bool) {
		t.Helper()
		p := api.Program{{Kind: api.DeCounter, Name: name, N: 1}}
		if ok {
			tells(t, p, "counter "+name+" 1;\n")
		} else {
			fails(t, p, api.ErrArg)
		}
	}
	for i := range 256 {
		b := string([]byte{byte(i)})
		letter := strings.Contains(letters, b)
		part := letter || strings.Contains("0123456789", b)
		asked(b, letter)
		asked("x"+b, part)
		asked("x"+b+"x", part)
		asked(b+"x", letter)
		asked(strings.Repeat("x", 254)+b, part)
		for _, k := range keyWords {
			asked(k+b, part && !slices.Contains(keyWords, k+b))
		}
	}
}

func TestWholeNumbers(t *testing.T) { // P9.1
	for _, n := range append(slices.Clone(goodInts), badInts...) {
		digits := strconv.Itoa(n)
		for s, p := range map[string]api.Program{
			"header h {\na " + digits + ";\n}\n":                                             {{Kind: api.DeHeader, Name: "h", Fields: list(api.Field{Name: "a", W: n})}},
			"action f(a " + digits + ") {\n}\n":                                              {{Kind: api.DeAction, Name: "f", Fields: list(api.Field{Name: "a", W: n})}},
			"register r " + digits + " 1;\n":                                                 {{Kind: api.DeRegister, Name: "r", W: n, N: 1}},
			"register r 1 " + digits + ";\n":                                                 {{Kind: api.DeRegister, Name: "r", W: 1, N: n}},
			"counter c " + digits + ";\n":                                                    {{Kind: api.DeCounter, Name: "c", N: n}},
			"meter m " + digits + " 1 2;\n":                                                  {{Kind: api.DeMeter, Name: "m", N: n, Rate: 1, Burst: 2}},
			"meter m 1 " + digits + " 2;\n":                                                  {{Kind: api.DeMeter, Name: "m", N: 1, Rate: n, Burst: 2}},
			"meter m 1 2 " + digits + ";\n":                                                  {{Kind: api.DeMeter, Name: "m", N: 1, Rate: 2, Burst: n}},
			"table t {\nkey {\n}\nactions a;\ndefault a();\nsize " + digits + ";\n}\n":       {{Kind: api.DeTable, Name: "t", Actions: list("a"), Default: "a", N: n}},
			"control {\nclone " + digits + ";\n}\n":                                          controlOf(api.Stmt{Kind: api.StClone, N: n}),
			"control {\ndigest cast " + digits + "(a);\n}\n":                                 digestOf(api.Expr{Op: api.OpCast, N: n, Args: list(param("a"))}),
			"control {\ndigest a[" + digits + ":1];\n}\n":                                    digestOf(api.Expr{Op: api.OpSlice, N: n, M: 1, Args: list(param("a"))}),
			"control {\ndigest a[1:" + digits + "];\n}\n":                                    digestOf(api.Expr{Op: api.OpSlice, N: 1, M: n, Args: list(param("a"))}),
			"control {\nif a {\nclone 1;\n} else {\nclone 1;\nclone " + digits + ";\n}\n}\n": controlOf(api.Stmt{Kind: api.StIf, Args: list(param("a")), Body: list(api.Stmt{Kind: api.StClone, N: 1}), Else: list(api.Stmt{Kind: api.StClone, N: 1}, api.Stmt{Kind: api.StClone, N: n})}),
		} {
			if slices.Contains(goodInts, n) {
				tells(t, p, s)
			} else {
				fails(t, p, api.ErrArg)
			}
		}
	}
}

// litPlaces are programs that have a number at each place where one stands.
func litPlaces(b api.Bits) []api.Program {
	a := list(param("a"))
	return []api.Program{
		digestOf(api.Expr{Op: api.OpLit, Lit: b}),
		{{Kind: api.DeTable, Name: "t", Actions: a1, Default: "a", Args: list(ones(1), b)}},
		{{Kind: api.DeParser, States: list(api.State{Name: "s", Select: a, Cases: list(api.Case{Value: b, Mask: ones(8), To: "a"}), To: "a"})}},
		{{Kind: api.DeParser, States: list(api.State{Name: "s", Select: a, Cases: list(api.Case{Value: ones(8), Mask: b, To: "a"}), To: "a"})}},
		{{Kind: api.DeParser, States: list(api.State{Name: "s", Select: a, Cases: list(api.Case{Value: b, Mask: b, To: "a"}), To: "a"})}},
	}
}

var a1 = []string{"a"}

func TestNumbers(t *testing.T) { // P9.1
	for w := 1; w <= api.MaxWidth; w++ {
		high, above := api.Bits{W: w}, ones(w)
		if w <= 64 {
			high.Lo = 1 << (w - 1)
		} else {
			high.Hi = 1 << (w - 65)
		}
		switch {
		case w < 64:
			above.Lo |= 1 << w
		case w < 128:
			above.Hi |= 1 << (w - 64)
		default:
			above.W = 129
		}
		for _, b := range []api.Bits{{W: w}, {W: w, Lo: 1}, high, ones(w)} {
			for _, p := range litPlaces(b) {
				tells(t, p, written(p))
			}
		}
		for _, p := range litPlaces(above) {
			fails(t, p, api.ErrArg)
		}
	}
	for _, w := range append(slices.Clone(badInts), 0, 129, 1000) {
		for _, b := range []api.Bits{{W: w}, {W: w, Lo: 1}, {W: w, Hi: 1}, ones(128)} {
			b.W = w
			for _, p := range litPlaces(b) {
				fails(t, p, api.ErrArg)
			}
		}
	}
	for _, w := range []int{1, 8, 63, 64} {
		for _, p := range litPlaces(api.Bits{W: w, Hi: 1 << 63}) {
			fails(t, p, api.ErrArg)
		}
	}
}

// TestMasks: one is left out just if it has all bits set and is as wide as the Value.
func TestMasks(t *testing.T) { // P9.1, P9.2
	for v := 1; v <= api.MaxWidth; v++ {
		for m := 1; m <= api.MaxWidth; m++ {
			p := api.Program{{Kind: api.DeParser, States: list(api.State{Name: "s", Select: list(param("a")), Cases: list(api.Case{Value: api.Bits{W: v, Lo: 1}, Mask: ones(m), To: "b"}), To: "c"})}}
			mask := ""
			if v != m {
				mask = " & " + litText(ones(m))
			}
			tells(t, p, "parser {\ns {\nselect a {\n"+strconv.Itoa(v)+"w1"+mask+": b;\nelse c;\n}\n}\n}\n")
			if v == m && v > 1 {
				p[0].States[0].Cases[0].Mask.Lo--
				tells(t, p, written(p))
				if q := parsed(t, written(p)); !same(p, q) {
					t.Errorf("Parse of Text is %+v, not %+v", q, p)
				}
			}
		}
	}
}

// TestOperands: each operation within each other, at each place.
func TestOperands(t *testing.T) { // P9.1, P9.2
	var all []api.Expr
	for op := api.OpLit; op <= api.OpHash; op++ {
		m := &maker{Rand: dice()}
		x := m.expr()
		for x.Op != op {
			m.left = 5
			x = m.expr()
		}
		all = append(all, x)
	}
	for _, outer := range all {
		for _, inner := range all {
			for i := range outer.Args {
				x := outer
				x.Args = slices.Clone(x.Args)
				x.Args[i] = inner
				if !holds(t, digestOf(x)) {
					t.Errorf("%+v is an expression", x)
				}
			}
		}
	}
}

// TestParsedPrograms: Text of what Parse tells is an error just if it would be too long.
func TestParsedPrograms(t *testing.T) { // P9.2
	for _, c := range []struct{ ahead, part, behind string }{
		{"deparser{", "h;", "}"}, {"control{", "drop;", "}"}, {"control{", "if a{drop;}else{f(a,b);}", "}"}, {"control{digest a", ",a+b*c", ";}"}, {"control{digest a", ",~a", ";}"},
		{"", "parser{s{go t;}}", ""}, {"", "action a(a 1,b 2){}", ""}, {"header h{", "a 1;", "}"}, {"table t{key{", "a|b mask;", "}actions a;default a();size 1;}"}, {"table t{key{}actions a;default a(1w1", ",1w1", ");size 1;}"},
		{"parser{s{", "take h;", "go a;}}"}, {"parser{s{select a{", "8w1&8wf:t;", "else b;}}}"}, {"parser{s{select a{", "8w1&8wff:t;", "else b;}}}"},
	} {
		seen := map[api.Errno]int{}
		for n := 1; ; n += 1 + n/9 {
			p, _, e := parse.Parse(c.ahead + strings.Repeat(c.part, n) + c.behind)
			if e != api.OK {
				break
			}
			s, e := print.Text(p)
			seen[e]++
			if want := written(p); len(want) > api.MaxSource && (s != "" || e != api.ErrLimit) || len(want) <= api.MaxSource && (s != want || e != api.OK) {
				t.Errorf("%d of %q: %d bytes, %d", n, c.part, len(s), e)
			}
		}
		if seen[api.OK] < 10 {
			t.Errorf("the sample says too little of %q: %v", c.part, seen)
		}
	}
}

// TestLinesMakeNoDifference: none of a program's lines is in its text, whatever they are.
func TestLinesMakeNoDifference(t *testing.T) { // P9.1, P9.2
	r := dice()
	for range 300 {
		p := made(r, 60)
		q := copied(reflect.ValueOf(p), false, 0).Interface().(api.Program)
		s, e := print.Text(p)
		if u, f := print.Text(q); s != u || e != f {
			t.Fatalf("%q, %d with lines, %q, %d without", s, e, u, f)
		}
	}
}

// filled lays something else into the spare room of all lists.
func filled(v reflect.Value) {
	switch v.Kind() {
	case reflect.Slice:
		for i := range v.Len() {
			filled(v.Index(i))
		}
		room := v.Slice(0, v.Cap())
		for i := v.Len(); i < v.Cap() && v.Len() > 0; i++ {
			room.Index(i).Set(v.Index(0))
		}
	case reflect.Struct:
		for i := range v.NumField() {
			filled(v.Field(i))
		}
	}
}

// whole is a program with the spare room of all its lists as part of them.
func whole(v reflect.Value) reflect.Value {
	out := reflect.New(v.Type()).Elem()
	switch v.Kind() {
	case reflect.Slice:
		l := v.Slice(0, v.Cap())
		out.Set(reflect.MakeSlice(v.Type(), l.Len(), l.Len()))
		for i := range l.Len() {
			// What lies in spare room is the first of the list once more, with lists that were asked already.
			if i < v.Len() {
				out.Index(i).Set(whole(l.Index(i)))
			} else {
				out.Index(i).Set(l.Index(i))
			}
		}
	case reflect.Struct:
		for i := range v.NumField() {
			out.Field(i).Set(whole(v.Field(i)))
		}
	default:
		out.Set(v)
	}
	return out
}

func TestNothingIsChanged(t *testing.T) { // R4, R5
	r := dice()
	for n := range 400 {
		p := made(r, 40)
		if n%2 == 0 {
			p = turned(r, p, 1)
		}
		want, wantError := print.Text(p)
		roomy := copied(reflect.ValueOf(&p).Elem(), true, 2)
		filled(roomy)
		before := whole(roomy).Interface()
		for range 2 {
			if s, e := print.Text(roomy.Interface().(api.Program)); s != want || e != wantError {
				t.Fatalf("Text = %q, %d, want %q, %d", s, e, want, wantError)
			}
			if !reflect.DeepEqual(whole(roomy).Interface(), before) {
				t.Fatalf("Text changed what it was handed: %+v, it was %+v", whole(roomy).Interface(), before)
			}
		}
	}
}

// TestManyAtOnce: calls share nothing, also where they are made at the same time.
func TestManyAtOnce(t *testing.T) { // R5
	p := parsed(t, strings.Join(rowTexts, ""))
	var group sync.WaitGroup
	for i := range 16 {
		group.Go(func() {
			for range 20 {
				q := p[i%len(p):]
				tells(t, q, written(q))
			}
		})
	}
	group.Wait()
}

func BenchmarkText(b *testing.B) {
	p, _, _ := parse.Parse(strings.Join(rowTexts, ""))
	for b.Loop() {
		print.Text(p)
	}
}
