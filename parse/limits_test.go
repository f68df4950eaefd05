package parse_test

import (
	"strings"
	"testing"

	"pointsman/api"
	"pointsman/parse"
)

// within asks for whether a text's tree is within the limits.
func within(t *testing.T, s string, ok bool) {
	t.Helper()
	want := api.ErrLimit
	if ok {
		want = api.OK
	}
	if p, line, e := parse.Parse(s); line != 0 || e != want || len(p) > 0 != ok {
		t.Errorf("Parse(%.80q .., %d bytes) = %d declarations, %d, %d, want %d", s, len(s), len(p), line, e, want)
	}
}

// TestMostParts: of each kind of part, as many as there may be, and one more.
func TestMostParts(t *testing.T) { // P8.1
	for _, c := range []struct {
		ahead, part, behind string
		others              int // parts of what stands ahead and behind
		each                int // parts of what is repeated
	}{
		{"", "meta{}", "", 0, 1},
		{"header h{", "a 1;", "}", 1, 1},
		{"meta{", "a 1;", "}", 1, 1},
		{"action a(a 1", ",a 1", "){}", 2, 1},
		{"parser{", "s{go a;}", "}", 1, 1},
		{"parser{s{take h;take h;take h;select a{", "1w1:b;", "else c;}}}", 3, 1},
		{"control{", "drop;", "}", 1, 1},
		{"control{", "f(a,b);", "}", 1, 3},
		{"control{", "if a{drop;}else{drop;}", "}", 1, 4},
		{"action a(a 1){", "count c[~a];", "}", 2, 3},
		{"control{digest a", ",a", ";}", 3, 1},
		{"control{digest a", ",a[0:0]", ";}", 3, 2},
		{"control{digest hash h(a", ",8w1", ");}", 4, 1},
		{"table t{key{", "a exact;", "}actions a b c;default a(8w1,8w2);size 1;}", 1, 1},
		{"table t{key{", "a.b+a mask;", "}actions a;default a();size 1;}", 1, 3},
		{"deparser{h;h;h;h;}", "control{}", "", 1, 1},
	} {
		n := (api.MaxParts - c.others) / c.each
		rest := strings.Repeat("meta{}", (api.MaxParts-c.others)%c.each)
		s := c.ahead + strings.Repeat(c.part, n) + c.behind + rest
		within(t, s, true)
		within(t, s+"meta{}", false)
		within(t, "counter c 1;"+s, false)
		within(t, c.ahead+strings.Repeat(c.part, n+1)+c.behind+rest, false)
	}
	// What is no part: names, numbers, keys as such.
	within(t, "deparser{"+strings.Repeat("h;", 20000)+"}", true)
	within(t, "parser{s{"+strings.Repeat("take h;", 5000)+"go a;}}", true)
	within(t, "table t{key{}actions "+strings.Repeat("a ", 20000)+";default a(1w1"+strings.Repeat(",1w1", 4500)+");size 1;}", true)
}

// TestDeepest: parts within one another, as many as there may be, and one more.
func TestDeepest(t *testing.T) { // P8.1
	for _, c := range []struct {
		ahead, open, shut, behind string
		others                    int // how deep the innermost part lies with none of these around it
	}{
		{"control{h.a=", "~", "", ";}", 3},
		{"control{h.a=", "", "[0:0]", ";}", 3},
		{"control{h.a=", "cast 1(", ")", ";}", 3},
		{"control{h.a=", "hash h(a,", ")", ";}", 3},
		{"control{h.a=", "hash h(", ",a)", ";}", 3},
		{"control{h.a=", "", "+a", ";}", 3},
		{"control{h.a=", "a*(", ")", ";}", 3},
		{"control{f(a,", "(~", ")", ");}", 3},
		{"control{write r[a]=", "~", "", ";}", 3},
		{"control{write r[", "~", "", "]=a;}", 3},
		{"control{if ", "~", "", "{}}", 3},
		{"table t{key{", "~", "", "mask;}actions a;default a();size 1;}", 2},
		{"parser{s{select ", "~", "", "{1w1:b;else c;}}}", 3},
	} {
		n := api.MaxDeep - c.others
		within(t, c.ahead+strings.Repeat(c.open, n)+" a "+strings.Repeat(c.shut, n)+c.behind, true)
		within(t, "\n"+c.ahead+strings.Repeat(c.open, n+1)+" a "+strings.Repeat(c.shut, n+1)+c.behind, false)
	}
	for _, c := range [][2]string{{"if a{", "}"}, {"if a{}else{", "}"}, {"if a{drop;}else{drop;", "drop;}"}} {
		for _, ahead := range []string{"control", "action a()"} {
			within(t, ahead+"{"+strings.Repeat(c[0], 62)+"drop;"+strings.Repeat(c[1], 62)+"}", true)
			within(t, ahead+"{"+strings.Repeat(c[0], 62)+"apply t;"+strings.Repeat(c[1], 62)+"}", true)
			within(t, ahead+"{"+strings.Repeat(c[0], 62)+"digest a;"+strings.Repeat(c[1], 62)+"}", false)
			within(t, ahead+"{"+strings.Repeat(c[0], 62)+strings.Repeat(c[1], 62)+"}", true)
			within(t, ahead+"{"+strings.Repeat(c[0], 63)+strings.Repeat(c[1], 63)+"}", false)
		}
	}
	// Brackets are no parts.
	within(t, "control{digest "+strings.Repeat("(", 32000)+"a"+strings.Repeat(")", 32000)+";}", true)
	within(t, "control{digest "+strings.Repeat("(~", 61)+strings.Repeat("(", 100)+"a"+strings.Repeat(")", 161)+";}", true)
	within(t, "control{digest "+strings.Repeat("(~", 62)+strings.Repeat("(", 100)+"a"+strings.Repeat(")", 162)+";}", false)
	// What lies deep stays within the limits where few parts do.
	within(t, "control{digest a"+strings.Repeat(",a", 4000)+";}control{digest "+strings.Repeat("~", 61)+"a;}", true)
}

// TestDeepTexts: as many things within one another as a text has room for.
func TestDeepTexts(t *testing.T) { // R1, P8.1
	for _, c := range [][3]string{{"control{digest ", "(", ")"}, {"control{digest ", "~(", ")"}, {"control{digest a", "+(a", ")"}, {"control{digest ", "cast 1(", ")"}, {"control{digest ", "hash h(", ")"}, {"control{digest a", "&&(a", ")"}} {
		open := (api.MaxSource - len(c[0])) / len(c[1])
		fails(t, c[0]+strings.Repeat(c[1], open), 0, api.ErrSyntax)
		both := (api.MaxSource - len(c[0]) - 3) / (len(c[1]) + len(c[2]))
		s := c[0] + strings.Repeat(c[1], both) + "a" + strings.Repeat(c[2], both)
		if c[0] == "control{digest " {
			within(t, s+";}", c[1] == "(")
		}
		fails(t, s, 0, api.ErrSyntax)
		fails(t, s+"\n}", 1, api.ErrSyntax)
	}
	within(t, "control{digest a"+strings.Repeat("+a", 32000)+";}", false)
	within(t, "control{digest a"+strings.Repeat("[0:0]", 13000)+";}", false)
	within(t, "control{digest "+strings.Repeat("~", 65000)+"a;}", false)
	within(t, "control{"+strings.Repeat("if a{", 10000)+strings.Repeat("}", 10000)+"}", false)
	fails(t, "control{"+strings.Repeat("if a{", 13000), 0, api.ErrSyntax)
	fails(t, "control{"+strings.Repeat("if a{}else{", 5900), 0, api.ErrSyntax)
}

// TestSyntaxAheadOfLimits: words that are no program are none, however many parts and however deep they are.
func TestSyntaxAheadOfLimits(t *testing.T) { // P8.1
	fails(t, "control{digest "+strings.Repeat("~", 1000)+"a;}\n}", 1, api.ErrSyntax)
	fails(t, strings.Repeat("meta{}", 5000)+"\nmeta", 1, api.ErrSyntax)
	fails(t, strings.Repeat("meta{}", 5000)+"\n\nmeta 5", 2, api.ErrSyntax)
	fails(t, strings.Repeat("meta{}", 5000)+"\n$", 1, api.ErrWord)
}
