package lower_test

import (
	"fmt"
	"strings"
	"testing"

	"pointsman/api"
	"pointsman/parse"
	"pointsman/types"
)

// most is a text with as many parts as may be: one more would be above a limit. It has at least so many.
func most(t *testing.T, least int, ahead string, part func(n int) string, behind string) string {
	t.Helper()
	text := func(n int) string {
		var s strings.Builder
		s.WriteString(ahead)
		for i := range n {
			s.WriteString(part(i))
		}
		return s.String() + behind
	}
	low, high := 0, api.MaxParts+1
	for high-low > 1 {
		n := (low + high) / 2
		p, _, e := parse.Parse(text(n))
		if e == api.OK {
			_, e = types.Check(p)
		}
		switch e {
		case api.OK:
			low = n
		case api.ErrLimit:
			high = n
		default:
			t.Fatalf("%d of %q: %d", n, part(0), e)
		}
	}
	if low < least {
		t.Fatalf("only %d of %q", low, part(0))
	}
	return text(low)
}

// each is a part that is always the same.
func each(s string) func(int) string { return func(int) string { return s } }

// passes asks for a pass by code of a text's program, in a world of its own.
func passes(t *testing.T, s string) {
	t.Helper()
	p, c := of(t, s)
	for _, b := range [][]byte{{1}, make([]byte, 600)} {
		sameRun(t, p, c, worldOf(p, "", nil), 1, b)
	}
}

// TestMostParts: the longest programs there are, of what comes to much code.
func TestMostParts(t *testing.T) { // P11.1, P11.2
	t.Parallel()
	const h = "header h{a 1;b 7;} register r 1 1; counter k 1; meter y 1 1 1; action f(p 1){} parser{start{take h;go accept;}} "
	for _, part := range []string{
		"h.a=1w1;", "h.a=h.a;", "random h.a;", "read h.a=r[1w0];", "read h.a=r[h.a];", "meter h.a=y[1w0];", "write r[1w0]=1w1;", "count k[1w0];", "digest 1w1;", "f(1w1);", "f(h.a);", "drop;", "make h;gone h;", "clone 1;",
		"if h.a{}", "if h.a{}else{h.a=h.a;}", "if h.a{random h.a;}else{random h.a;}", "h.a=~h.a;", "h.b=h.b+h.b;", "meta.out=hash crc16(h.a,h.b);", "if valid h{}", "h.b=h.b[6:0];", "meta.out=cast 16(h.a);",
		"digest h.a" + strings.Repeat(",1w1", 63) + ";", "meta.out=hash crc16(h.a" + strings.Repeat(",1w1", 63) + ");",
	} {
		passes(t, most(t, 30, h+"control{", each(part), "}"))
		if !strings.HasPrefix(part, "f(") {
			passes(t, most(t, 30, h+"action g(q 1){", each(part), "} control{g(1w1);g(1w0);}"))
		}
	}
}

// TestDeepest: parts that lie as deep as may be.
func TestDeepest(t *testing.T) { // P11.1, P11.2
	const h = "header h{a 1;b 7;} parser{start{take h;go accept;}} deparser{h;} control{"
	for _, c := range []struct{ ahead, behind string }{
		{"if h.a{", "h.b=h.b+7w1;}else{h.b=h.b+7w2;}"}, {"if h.a{h.b=h.b+7w1;}else{", "h.b=h.b+7w2;}"}, {"if 1w1{if 1w0{h.a=1w0;}else{", "h.b=h.b+7w1;}}"},
	} {
		for n := 1; n <= 61; n++ {
			s := h + strings.Repeat(c.ahead, n) + strings.Repeat(c.behind, n) + "}"
			p, _, e := parse.Parse(s)
			if e == api.ErrLimit {
				break
			}
			code := coded(t, p)
			for _, b := range []byte{0, 0x80, 0xff} {
				sameRun(t, p, code, worldOf(p, "", nil), 1, []byte{b})
			}
		}
	}
	for _, c := range []struct{ ahead, of, behind string }{{"~", "h.b", ""}, {"", "h.b", "+h.b"}, {"h.b-(", "h.b", ")"}, {"cast 7(", "h.b", ")"}, {"", "h.b", "[6:0]"}, {"cast 7(hash crc16(7w1,", "h.b", ",h.a))"}} {
		for n := 1; n <= 61; n++ {
			s := h + "h.b=" + strings.Repeat(c.ahead, n) + c.of + strings.Repeat(c.behind, n) + ";}"
			if p, _, e := parse.Parse(s); e == api.OK {
				sameRun(t, p, coded(t, p), worldOf(p, "", nil), 1, []byte{0x2a})
			}
		}
	}
}

// TestMostDeclarations: as many as may be, of each kind.
func TestMostDeclarations(t *testing.T) { // P11.1, P11.2
	for _, c := range []struct{ first, each, use string }{
		{"", "header x%d{a 8;} ", "make x253;x253.a=8w9;digest x253.a,x252.a;"}, {"", "register x%d 128 1; ", "write x253[1w0]=128w1;write x252[1w0]=128w2;"}, {"", "counter x%d 1; ", "count x253[1w0];count x0[1w0];"}, {"", "action x%d(p 8){digest p;} ", "x253(8w1);x0(8w2);"},
		{"header h{f 1;g 7;} ", "meter x%d 1 1 1; ", "make h;meter h.f=x252[1w0];digest h.f;"}, {"action f(p 8){digest p;} ", "table x%d{key{meta.port exact;} actions f; default f(8w7); size 4096;} ", "apply x252;apply x0;"},
	} {
		s := c.first
		n := api.MaxDecls - 2 - strings.Count(s, "} ")
		for i := range n {
			s += fmt.Sprintf(c.each, i)
		}
		passes(t, s+"deparser{} control{"+c.use+"}")
	}
}

// TestMostFields: as many fields, params, keys and values as may be.
func TestMostFields(t *testing.T) { // P11.1, P11.2
	list := func(format, between string) string {
		var l []string
		for i := range api.MaxFields {
			l = append(l, strings.ReplaceAll(format, "#", fmt.Sprint(i)))
		}
		return strings.Join(l, between)
	}
	s := "header h{" + list("a# 8;", "") + "} meta{" + list("m# 8;", "") + "} action f(" + list("p# 8", ",") + "){" + list("h.a#=p#+h.a#;", "") + "digest " + list("p#", ",") + ";} " +
		"table t{key{" + list("h.a#^meta.m# mask;", "") + "} actions f; default f(8w3" + strings.Repeat(",8w4", 63) + "); size 1;} " +
		"parser{start{take h;select hash crc32(" + list("h.a#", ",") + "){32w0:reject;else accept;}}} control{" + list("meta.m#=h.a#;", "") + "f(" + list("meta.m#", ",") + ");apply t;digest " + list("h.a#", ",") + ";} deparser{h;}"
	passes(t, s)
	// And as many headers that are so wide as there is room for.
	passes(t, most(t, 50, "control{make meta0;meta0.a63=8w1;} deparser{meta1;meta0;} header meta0{"+list("a# 8;", "")+"} header meta1{"+list("a# 8;", "")+"} ", func(n int) string { return fmt.Sprintf("header h%d{", n) + list("a# 8;", "") + "} " }, ""))
}

// TestMostStates: as many states as may be, with and without cases.
func TestMostStates(t *testing.T) { // P11.1, P11.2
	passes(t, most(t, 2000, "parser{start{go s0;}", func(n int) string { return fmt.Sprintf("s%d{go start;}", n) }, "}"))
	passes(t, most(t, 500, "header h{a 8;} parser{start{take h;go s0;}", func(n int) string { return fmt.Sprintf("s%d{select h.a{8w%x:accept;else start;}}", n, n%256) }, "}"))
	passes(t, most(t, 1000, "header h{a 8;} parser{start{take h;select h.a+8w1{", each("8w1:accept;8w2&8w3:start;"), "else start;}}}"))
}
