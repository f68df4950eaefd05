package source_test

import (
	"fmt"
	"strings"
	"testing"

	"pointsman/api"
	"pointsman/parse"
	"pointsman/source"
	"pointsman/types"
)

// most is a text with as many parts as may be: one more would be above a limit. It has at least so many.
func most(t *testing.T, least int, ahead string, part func(n int) string, behind string) string {
	t.Helper()
	text := func(n int) string {
		var s strings.Builder
		s.WriteString(ahead)
		for i := range n {
			s.WriteString(part(i))
		}
		return s.String() + behind
	}
	low, high := 0, api.MaxParts+1
	for high-low > 1 {
		n := (low + high) / 2
		p, _, e := parse.Parse(text(n))
		if e == api.OK {
			_, e = types.Check(p)
		}
		switch e {
		case api.OK:
			low = n
		case api.ErrLimit:
			high = n
		default:
			t.Fatalf("%d of %q: %d", n, part(0), e)
		}
	}
	if low < least {
		t.Fatalf("only %d of %q", low, part(0))
	}
	return text(low)
}

// each is a part that is always the same.
func each(s string) func(int) string { return func(int) string { return s } }

// passes asks for passes through a text's program, in a world in which nothing was done.
func passes(t *testing.T, s string) {
	t.Helper()
	p := parsed(t, s)
	w, e := source.New(p)
	if e != api.OK {
		t.Fatalf("New(%.2000s) = %d", s, e)
	}
	for _, b := range [][]byte{{1}, make([]byte, 600)} {
		w = sameRun(t, p, w, 1, b).w
	}
}

// TestMostParts: the longest programs there are.
func TestMostParts(t *testing.T) { // P15.2
	t.Parallel()
	const h = "header h{a 1;b 7;} register r 1 1; counter k 1; meter y 1 1 1; action f(p 1){} parser{start{take h;go accept;}} "
	for _, part := range []string{
		"h.a=h.a;", "random h.a;", "read h.a=r[h.a];", "meter h.a=y[1w0];", "write r[1w0]=1w1;", "count k[1w0];", "f(h.a);", "make h;gone h;", "clone 1;", "if h.a{}else{h.a=h.a;}",
		"digest h.a" + strings.Repeat(",1w1", 63) + ";", "meta.out=hash crc16(h.a" + strings.Repeat(",1w1", 63) + ");",
	} {
		passes(t, most(t, 30, h+"control{", each(part), "}"))
		if !strings.HasPrefix(part, "f(") {
			passes(t, most(t, 30, h+"action g(q 1){", each(part), "} control{g(1w1);g(1w0);}"))
		}
	}
	passes(t, most(t, 500, "header h{a 8;} parser{start{take h;go s0;}", func(n int) string { return fmt.Sprintf("s%d{select h.a{8w%x:accept;else start;}}", n, n%256) }, "}"))
	passes(t, most(t, 1000, "header h{a 8;} parser{start{take h;select h.a+8w1{", each("8w1:accept;8w2&8w3:start;"), "else start;}}}"))
}

// TestLongestPass: many statements, done many times over, of arrays with as many cells as may be.
func TestLongestPass(t *testing.T) { // P15.2, R1
	const head = "counter k 4096; register r 128 4096; meter y 4096 1 65535; meta{f 1;v 128;} action f(){"
	for _, part := range []string{"count k[12wfff];", "write r[12wfff]=meta.v;", "read meta.v=r[12wfff];", "meter meta.f=y[12wfff];"} {
		p := parsed(t, most(t, 1000, head+strings.Repeat(part, 100)+"} control{", each("f();"), "}"))
		w, _ := source.New(p)
		calls := len(p[len(p)-1].Body)
		got := run(p, w, 0, nil)
		if got.E != api.OK || len(got.Pass.Effects) != 100*calls {
			t.Fatalf("%s: %d, %d effects", part, got.E, len(got.Pass.Effects))
		}
		if n := got.World.Arrays[0].Cells[4095].Lo; strings.HasPrefix(part, "count") && n != uint64(100*calls) {
			t.Errorf("the counter says %d", n)
		}
	}
}

// TestDeepest: parts that lie as deep as may be.
func TestDeepest(t *testing.T) { // P15.2
	const h = "header h{a 1;b 7;} parser{start{take h;go accept;}} deparser{h;} control{"
	for _, c := range []struct{ ahead, of, behind string }{
		{"if h.a{", "", "h.b=h.b+7w1;}else{h.b=h.b+7w2;}"}, {"if h.a{h.b=h.b+7w1;}else{", "", "h.b=h.b+7w2;}"}, {"h.b=~", "h.b", ";"}, {"h.b=h.b-(", "h.b", ");"},
	} {
		deepest := 0
		for n := 1; n <= 64; n++ {
			ahead, behind := strings.Repeat(c.ahead, n), strings.Repeat(c.behind, n)
			if c.of != "" {
				ahead = "h.b=" + strings.Repeat(strings.TrimPrefix(c.ahead, "h.b="), n)
				behind = strings.Repeat(strings.TrimSuffix(c.behind, ";"), n) + ";"
			}
			p, _, e := parse.Parse(h + ahead + c.of + behind + "}")
			if e != api.OK {
				continue
			}
			deepest = n
			w, _ := source.New(p)
			for _, b := range []byte{0, 0x80, 0xff} {
				sameRun(t, p, w, 1, []byte{b})
			}
		}
		if deepest < 60 {
			t.Errorf("%q: only %d deep", c.ahead, deepest)
		}
	}
}

// TestMostDeclarations: as many as may be, of each kind.
func TestMostDeclarations(t *testing.T) { // P15.1, P15.2
	for _, c := range []struct{ first, each, use string }{
		{"", "header x%d{a 8;} ", "make x253;x253.a=8w9;digest x253.a,x252.a;"}, {"", "register x%d 128 1; ", "write x253[1w0]=128w1;write x252[1w0]=128w2;"}, {"", "counter x%d 1; ", "count x253[1w0];count x0[1w0];"}, {"", "action x%d(p 8){digest p;} ", "x253(8w1);x0(8w2);"},
		{"header h{f 1;g 7;} ", "meter x%d 1 1 1; ", "make h;meter h.f=x252[1w0];digest h.f;"}, {"action f(p 8){digest p;} ", "table x%d{key{meta.port exact;} actions f; default f(8w7); size 4096;} ", "apply x252;apply x0;"},
	} {
		s := c.first
		for i := range api.MaxDecls - 2 - strings.Count(s, "} ") {
			s += fmt.Sprintf(c.each, i)
		}
		passes(t, s+"deparser{} control{"+c.use+"}")
	}
}

// TestMostFields: as many fields, params, keys and values as may be, and as many headers that are so wide as there is room for.
func TestMostFields(t *testing.T) { // P15.2
	list := func(format, between string) string {
		var l []string
		for i := range api.MaxFields {
			l = append(l, strings.ReplaceAll(format, "#", fmt.Sprint(i)))
		}
		return strings.Join(l, between)
	}
	passes(t, "header h{"+list("a# 8;", "")+"} meta{"+list("m# 8;", "")+"} action f("+list("p# 8", ",")+"){"+list("h.a#=p#+h.a#;", "")+"digest "+list("p#", ",")+";} "+
		"table t{key{"+list("h.a#^meta.m# mask;", "")+"} actions f; default f(8w3"+strings.Repeat(",8w4", 63)+"); size 1;} "+
		"parser{start{take h;select hash crc32("+list("h.a#", ",")+"){32w0:reject;else accept;}}} control{"+list("meta.m#=h.a#;", "")+"f("+list("meta.m#", ",")+");apply t;digest "+list("h.a#", ",")+";} deparser{h;}")
	wide := func(n int) string { return fmt.Sprintf("header h%d{", n) + list("a# 128;", "") + "} " }
	made, emitted := "", ""
	for i := range 60 {
		made, emitted = made+fmt.Sprintf("make h%d;", i), emitted+fmt.Sprintf("h%d;", i)
	}
	s := "control{" + made + "clone 1;} deparser{" + emitted + "} "
	for i := range 60 {
		s += wide(i)
	}
	passes(t, s)
	// Two of them are just as long as a packet may be.
	passes(t, wide(0)+wide(1)+"control{make h0;make h1;h0.a0=128w1;h1.a63=128w2;} deparser{h1;h0;}")
	p := parsed(t, wide(0)+wide(1)+"control{make h0;make h1;} deparser{h1;h0;}")
	w, _ := source.New(p)
	if got := run(p, w, 1, nil); got.Pass.End != api.EndSent || len(got.Pass.Packet) != api.MaxPacket {
		t.Errorf("as long as may be: %d, %d bytes", got.Pass.End, len(got.Pass.Packet))
	}
	if got := run(p, w, 1, []byte{1}); got.Pass.End != api.EndDropped || len(got.Pass.Packet) != 0 {
		t.Errorf("longer: %d, %d bytes", got.Pass.End, len(got.Pass.Packet))
	}
}
