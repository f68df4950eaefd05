package exec_test

import (
	"fmt"
	"slices"
	"strings"
	"testing"

	"pointsman/api"
	"pointsman/lower"
	"pointsman/source"
)

// longest is a text with as many parts as may be: one more would be above a limit. It has at least so many.
func longest(t *testing.T, least int, ahead string, part func(n int) string, behind string) string {
	t.Helper()
	text := func(n int) string {
		var s strings.Builder
		s.WriteString(ahead)
		for i := range n {
			s.WriteString(part(i))
		}
		return s.String() + behind
	}
	low, high := 0, api.MaxParts+1
	for high-low > 1 {
		n := (low + high) / 2
		switch _, _, _, e := lower.Of(text(n)); e {
		case api.OK:
			low = n
		case api.ErrLimit:
			high = n
		default:
			t.Fatalf("%d of %q: %d", n, part(0), e)
		}
	}
	if low < least {
		t.Fatalf("only %d of %q", low, part(0))
	}
	return text(low)
}

// each is a part that is always the same.
func each(s string) func(int) string { return func(int) string { return s } }

// passes asks for passes through a text's program, in a world in which nothing was done.
func passes(t *testing.T, s string) {
	t.Helper()
	p, c := of(t, s)
	w, _ := source.New(p)
	for _, b := range [][]byte{{1}, make([]byte, 600)} {
		h := handed{p, c, w, 1, b}
		got := sameRun(t, h)
		lookAlike(t, dice(10), h, got, 1)
		w = got.World
	}
}

// TestMostParts: the longest programs there are.
func TestMostParts(t *testing.T) { // P16.1, P16.2
	t.Parallel()
	const h = "header h{a 1;b 7;} register r 1 1; counter k 1; meter y 1 1 1; action f(p 1){} parser{start{take h;go accept;}} "
	for _, part := range []string{
		"h.a=h.a;", "random h.a;", "read h.a=r[h.a];", "meter h.a=y[1w0];", "write r[1w0]=1w1;", "count k[1w0];", "f(h.a);", "make h;gone h;", "clone 1;", "if h.a{}else{h.a=h.a;}",
		"digest h.a" + strings.Repeat(",1w1", 63) + ";", "meta.out=hash crc16(h.a" + strings.Repeat(",1w1", 63) + ");",
	} {
		passes(t, longest(t, 30, h+"control{", each(part), "}"))
		if !strings.HasPrefix(part, "f(") {
			passes(t, longest(t, 30, h+"action g(q 1){", each(part), "} control{g(1w1);g(1w0);}"))
		}
	}
	passes(t, longest(t, 500, "header h{a 8;} parser{start{take h;go s0;}", func(n int) string { return fmt.Sprintf("s%d{select h.a{8w%x:accept;else start;}}", n, n%256) }, "}"))
	passes(t, longest(t, 1000, "header h{a 8;} parser{start{take h;select h.a+8w1{", each("8w1:accept;8w2&8w3:start;"), "else start;}}}"))
}

// TestLongestPass: many statements, done many times over, of arrays with as many cells as may be.
func TestLongestPass(t *testing.T) { // P16.1, R1
	t.Parallel()
	const head = "counter k 4096; register r 128 4096; meter y 4096 1 65535; meta{f 1;v 128;} action f(){"
	for _, part := range []string{"count k[12wfff];", "write r[12wfff]=meta.v;", "read meta.v=r[12wfff];", "meter meta.f=y[12wfff];"} {
		p, c := of(t, longest(t, 1000, head+strings.Repeat(part, 100)+"} control{", each("f();"), "}"))
		w, _ := source.New(p)
		calls := len(p[len(p)-1].Body)
		got := handed{p, c, w, 0, nil}.run()
		if got.E != api.OK || len(got.Pass.Effects) != 100*calls {
			t.Fatalf("%s: %d, %d effects", part, got.E, len(got.Pass.Effects))
		}
		if n := got.World.Arrays[0].Cells[4095].Lo; strings.HasPrefix(part, "count") && n != uint64(100*calls) {
			t.Errorf("the counter says %d", n)
		}
	}
	// What is looked at goes back through all of it.
	const sum = "header h{a 8;b 8;} meta{m 8;} parser{start{take h;go accept;}} action f(p 8){"
	p, c := of(t, longest(t, 1000, sum+strings.Repeat("if p==meta.m{}meta.m=meta.m+p;", 20)+"} control{", each("f(h.a);"), "if meta.m[0:0]{drop;}}"))
	w, _ := source.New(p)
	if got := (handed{p, c, w, 0, []byte{1, 2, 3}}).run(); got.E != api.OK || look(got.Seen) != "ff0000 16 fixed" {
		t.Errorf("%d, %s", got.E, look(got.Seen))
	}
}

// TestMostInstructions: an action of half of all parts, none of which comes to more instructions, done by the other half.
func TestMostInstructions(t *testing.T) { // P16.1
	t.Parallel()
	const n = api.MaxParts/2 - 5
	p, c := of(t, "header h{a 8;} action f(){if valid h{"+strings.Repeat("random h.a;", n)+"}} control{"+strings.Repeat("f();", n)+"}")
	w, _ := source.New(p)
	if got := (handed{p, c, w, 0, []byte{7}}).run(); got.E != api.OK || shown(got.Pass) != "sent 07 port 0" || look(got.Seen) != "00 0 fixed" {
		t.Errorf("%d, %s, %s", got.E, shown(got.Pass), look(got.Seen))
	}
}

// TestSteps: as many states as a pass goes through, and one more, wherever they lead.
func TestSteps(t *testing.T) { // P16.1, P16.2
	for _, end := range []struct{ to, want string }{{"accept", "sent port 0"}, {"reject", "reject"}} {
		for n, want := range map[int]string{1: end.want, 255: end.want, 256: end.want, 257: "steps", 300: "steps"} {
			s := ""
			for i := 1; i < n; i++ {
				s += fmt.Sprintf("s%d{go s%d;}", i, i+1)
			}
			s = strings.Replace("start{go s1;}"+s, fmt.Sprintf("go s%d;", n), "go "+end.to+";", 1)
			seen := "0 fixed"
			if want == "steps" {
				seen = "0"
			}
			runs(t, "parser{"+s+"}", 0, "", want, seen)
		}
	}
	// A state that is gone through again and again counts again and again; what it takes may be too little at the last one.
	const h = "header h{a 8;} deparser{h;} parser{start{take h;select h.a{8w1:accept;else start;}}}"
	for n, want := range map[int]string{255: "sent 01 port 0", 256: "sent 01 port 0", 257: "steps"} {
		runs(t, h, 0, strings.Repeat("00", n-1)+"01", want, "")
	}
	runs(t, h, 0, strings.Repeat("00", 255), "short", strings.Repeat("ff", 255)+" 2040")
	runs(t, h, 0, strings.Repeat("00", 256), "steps", strings.Repeat("ff", 256)+" 2048")
	runs(t, h, 0, strings.Repeat("00", 255)+"01", "sent 01 port 0", strings.Repeat("ff", 256)+" 2048 fixed")
}

// TestDeepest: parts that lie as deep as may be.
func TestDeepest(t *testing.T) { // P16.1
	const h = "header h{a 1;b 7;} parser{start{take h;go accept;}} deparser{h;} control{"
	for _, c := range []struct{ ahead, of, behind string }{
		{"if h.a{", "", "h.b=h.b+7w1;}else{h.b=h.b+7w2;}"}, {"if h.a{h.b=h.b+7w1;}else{", "", "h.b=h.b+7w2;}"}, {"h.b=~", "h.b", ";"}, {"h.b=h.b-(", "h.b", ");"},
	} {
		deepest := 0
		for n := 1; n <= 64; n++ {
			ahead, behind := strings.Repeat(c.ahead, n), strings.Repeat(c.behind, n)
			if c.of != "" {
				ahead = "h.b=" + strings.Repeat(strings.TrimPrefix(c.ahead, "h.b="), n)
				behind = strings.Repeat(strings.TrimSuffix(c.behind, ";"), n) + ";"
			}
			p, code, _, e := lower.Of(h + ahead + c.of + behind + "}")
			if e != api.OK {
				continue
			}
			deepest = n
			w, _ := source.New(p)
			for _, b := range []byte{0, 0x80, 0xff} {
				sameRun(t, handed{p, code, w, 1, []byte{b}})
			}
		}
		if deepest < 60 {
			t.Errorf("%q: only %d deep", c.ahead, deepest)
		}
	}
}

// TestMostDeclarations: as many as may be, of each kind.
func TestMostDeclarations(t *testing.T) { // P16.1
	for _, c := range []struct{ first, each, use string }{
		{"", "header x%d{a 8;} ", "make x253;x253.a=8w9;digest x253.a,x252.a;"}, {"", "register x%d 128 1; ", "write x253[1w0]=128w1;write x252[1w0]=128w2;"}, {"", "counter x%d 1; ", "count x253[1w0];count x0[1w0];"}, {"", "action x%d(p 8){digest p;} ", "x253(8w1);x0(8w2);"},
		{"header h{f 1;g 7;} ", "meter x%d 1 1 1; ", "make h;meter h.f=x252[1w0];digest h.f;"}, {"action f(p 8){digest p;} ", "table x%d{key{meta.port exact;} actions f; default f(8w7); size 4096;} ", "apply x252;apply x0;"},
	} {
		s := c.first
		for i := range api.MaxDecls - 2 - strings.Count(s, "} ") {
			s += fmt.Sprintf(c.each, i)
		}
		passes(t, s+"deparser{} control{"+c.use+"}")
	}
}

// TestMostFields: as many fields, params, keys and values as may be, and as many headers that are so wide as there is room for.
func TestMostFields(t *testing.T) { // P16.1, P16.2
	list := func(format, between string) string {
		var l []string
		for i := range api.MaxFields {
			l = append(l, strings.ReplaceAll(format, "#", fmt.Sprint(i)))
		}
		return strings.Join(l, between)
	}
	passes(t, "header h{"+list("a# 8;", "")+"} meta{"+list("m# 8;", "")+"} action f("+list("p# 8", ",")+"){"+list("h.a#=p#+h.a#;", "")+"digest "+list("p#", ",")+";} "+
		"table t{key{"+list("h.a#^meta.m# mask;", "")+"} actions f; default f(8w3"+strings.Repeat(",8w4", 63)+"); size 1;} "+
		"parser{start{take h;select hash crc32("+list("h.a#", ",")+"){32w0:reject;else accept;}}} control{"+list("meta.m#=h.a#;", "")+"f("+list("meta.m#", ",")+");apply t;digest "+list("h.a#", ",")+";} deparser{h;}")
	wide := func(n int) string { return fmt.Sprintf("header h%d{", n) + list("a# 128;", "") + "} " }
	made, emitted := "", ""
	for i := range 60 {
		made, emitted = made+fmt.Sprintf("make h%d;", i), emitted+fmt.Sprintf("h%d;", i)
	}
	s := "control{" + made + "clone 1;} deparser{" + emitted + "} "
	for i := range 60 {
		s += wide(i)
	}
	passes(t, s)
	// Two of them are just as long as a packet may be, when it is put together and when it comes in.
	two := wide(0) + wide(1)
	runs(t, two+"control{make h0;make h1;h0.a0=128w1;} deparser{h1;h0;}", 1, "", "sent "+strings.Repeat("00", 1039)+"01"+strings.Repeat("00", 1008)+" port 0", "0 fixed")
	runs(t, two+"control{make h0;make h1;} deparser{h1;h0;}", 1, "01", "dropped", "00 0")
	all := two + "parser{start{take h0;take h1;go accept;}} control{if h1.a63[0:0]{drop;}if h0.a0[127:127]{drop;}} "
	runs(t, all, 1, strings.Repeat("01", 2048), "dropped", "80"+strings.Repeat("00", 2046)+"01 16384 fixed")
	runs(t, all, 1, strings.Repeat("02", 2048), "sent port 0", "80"+strings.Repeat("00", 2046)+"01 16384 fixed")
	runs(t, all, 1, strings.Repeat("02", 2047), "short", strings.Repeat("00", 2047)+" 16256")
}

// TestWideTables: as many keys, and as many entries, as may be.
func TestWideTables(t *testing.T) { // P16.1, P16.2
	s := "header h{a 16;} parser{start{take h;go accept;}} action f(){} table t{key{" + strings.Repeat("h.a range;", 63) + "meta.port mask;} actions f; default f(); size 4096;} control{apply t;}"
	p, c := of(t, s)
	w, _ := source.New(p)
	for i := range 4096 {
		e := api.Entry{Priority: 1 + i%7, Action: "f", Matches: slices.Repeat([]api.Match{{Value: number(16, 0), Mask: number(16, 65535)}}, 64)}
		e.Matches[62].Value.Lo, e.Matches[63].Mask.Lo = uint64(i), 0
		w.Tables[0].Entries = append(w.Tables[0].Entries, e)
	}
	got := handed{p, c, w, 3, []byte{255, 255, 1}}.run()
	if got.E != api.OK || !same(got.World, w) || shown(got.Pass) != "sent 01 port 0: hit t 6" || look(got.Seen) != "ffff00 16 fixed" {
		t.Errorf("%d, %s, %s", got.E, shown(got.Pass), look(got.Seen))
	}
	last := copied(w.Tables[0].Entries[0], 0)
	last.Matches[63].Mask.Lo = 1
	w.Tables[0].Entries = append(w.Tables[0].Entries, last)
	if got := (handed{p, c, w, 3, nil}).run(); !same(got, answered{E: api.ErrArg}) {
		t.Errorf("an entry more than may be: %d", got.E)
	}
}
