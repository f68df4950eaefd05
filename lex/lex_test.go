package lex_test

import (
	"math/big"
	"math/rand/v2"
	"regexp"
	"slices"
	"strconv"
	"strings"
	"testing"

	"pointsman/api"
	"pointsman/lex"
)

// dice are alike on every run.
func dice() *rand.Rand { return rand.New(rand.NewPCG(7, 11)) }

// allSigns stand as the chapter lists them.
var allSigns = strings.Fields("{ } ( ) [ ] ; : , . = == != < <= + - * & | ^ ~ << >> ++ && ||")

func name(line int, s string) api.Word { return api.Word{Kind: api.WName, S: s, Line: line} }

func sign(line int, s string) api.Word { return api.Word{Kind: api.WSign, S: s, Line: line} }

func whole(line int, n uint64) api.Word {
	return api.Word{Kind: api.WInt, N: api.Bits{W: 64, Lo: n}, Line: line}
}

func lit(line, w int, hi, lo uint64) api.Word {
	return api.Word{Kind: api.WLit, N: api.Bits{W: w, Hi: hi, Lo: lo}, Line: line}
}

// is says whether s has just these words.
func is(t *testing.T, s string, want ...api.Word) {
	t.Helper()
	if l, line, e := lex.Words(s); !slices.Equal(l, want) || line != 0 || e != api.OK {
		t.Errorf("Words(%.60q) = %.20v, %d, %d, want %.20v", s, l, line, e, want)
	}
}

// fails says whether s has no words, from that line on.
func fails(t *testing.T, s string, line int) {
	t.Helper()
	if l, n, e := lex.Words(s); len(l) != 0 || n != line || e != api.ErrWord {
		t.Errorf("Words(%.60q) = %.20v, %d, %d, want line %d", s, l, n, e, line)
	}
}

// The words read another way: by patterns, the one that matches most.
var (
	idlePattern = regexp.MustCompile(`^(?:[ \t\n]|//[^\n]*)+`)
	runPattern  = regexp.MustCompile(`^[a-zA-Z0-9_]+`)
	namePattern = regexp.MustCompile(`^[a-zA-Z_]`)
	intPattern  = regexp.MustCompile(`^(?:0|[1-9][0-9]{0,9})$`)
	litPattern  = regexp.MustCompile(`^([1-9][0-9]{0,2})w(0|[1-9a-f][0-9a-f]{0,31})$`)
)

func runByHand(s string) (api.Word, bool) {
	if namePattern.MatchString(s) {
		return name(0, s), len(s) <= 255
	}
	if intPattern.MatchString(s) {
		n, _ := new(big.Int).SetString(s, 10)
		return whole(0, n.Uint64()), n.BitLen() <= 31
	}
	m := litPattern.FindStringSubmatch(s)
	if m == nil {
		return api.Word{}, false
	}
	w, _ := strconv.Atoi(m[1])
	v, _ := new(big.Int).SetString(m[2], 16)
	low := new(big.Int).And(v, new(big.Int).SetUint64(1<<64-1))
	return lit(0, w, new(big.Int).Rsh(v, 64).Uint64(), low.Uint64()), w <= 128 && v.BitLen() <= w
}

func signByHand(s string) string {
	best := ""
	for _, x := range allSigns {
		if strings.HasPrefix(s, x) && len(x) > len(best) {
			best = x
		}
	}
	return best
}

func wordsByHand(s string) ([]api.Word, int, api.Errno) {
	var l []api.Word
	for at := 0; at < len(s); {
		rest := s[at:]
		line := strings.Count(s[:at], "\n")
		if idle := idlePattern.FindString(rest); idle != "" {
			at += len(idle)
			continue
		}
		run := runPattern.FindString(rest)
		w, ok := runByHand(run)
		if run == "" {
			run = signByHand(rest)
			w, ok = sign(0, run), run != ""
		}
		if !ok {
			return nil, line, api.ErrWord
		}
		w.Line = line
		l = append(l, w)
		at += len(run)
	}
	return l, 0, api.OK
}

// alike says whether the words of s are those that are read by hand.
func alike(t *testing.T, s string) bool {
	t.Helper()
	l, line, e := lex.Words(s)
	wl, wline, we := wordsByHand(s)
	if slices.Equal(l, wl) && line == wline && e == we {
		return true
	}
	t.Errorf("Words(%.80q) = %.20v, %d, %d, want %.20v, %d, %d", s, l, line, e, wl, wline, we)
	return false
}

func TestWords(t *testing.T) { // P7.1
	is(t, "")
	is(t, "a.b = 16w1f; // so\nx<=y", name(0, "a"), sign(0, "."), name(0, "b"), sign(0, "="), lit(0, 16, 0, 31), sign(0, ";"),
		name(1, "x"), sign(1, "<="), name(1, "y"))
	is(t, "a<<b<c==d", name(0, "a"), sign(0, "<<"), name(0, "b"), sign(0, "<"), name(0, "c"), sign(0, "=="), name(0, "d"))
	is(t, "a&&b&c++d+e", name(0, "a"), sign(0, "&&"), name(0, "b"), sign(0, "&"), name(0, "c"), sign(0, "++"), name(0, "d"), sign(0, "+"), name(0, "e"))
	is(t, "[7:0]", sign(0, "["), whole(0, 7), sign(0, ":"), whole(0, 0), sign(0, "]"))
	is(t, "header h { f 8; }", name(0, "header"), name(0, "h"), sign(0, "{"), name(0, "f"), whole(0, 8), sign(0, ";"), sign(0, "}"))
}

func TestIdle(t *testing.T) { // P7.1
	for _, s := range []string{" ", "\t", "\n", " \t\n \n", "//", "// a $ \" ! \xff \x00 / //", "//\n", "///", "////\n//\n", "\t// a\n\n// b", "//\r\n"} {
		is(t, s)
		is(t, s+"\n"+s)
	}
	is(t, "a//b\nc", name(0, "a"), name(1, "c"))
	is(t, "a //b\n//c\n\n\td//", name(0, "a"), name(3, "d"))
	is(t, "1//2\n3", whole(0, 1), whole(1, 3))
	is(t, "=//=\n=", sign(0, "="), sign(1, "="))
	// What looks like an end of a line, or like a blank, and is none.
	is(t, "//a\rb\vc\u0085d\u2028e")
	for _, s := range []string{"\r", "\v", "\f", "\x00", "\u00a0", "\u0085", "\u2028", "\ufeff", "a\rb", "a\n\r\n"} {
		fails(t, s, strings.Count(s[:max(strings.IndexByte(s, '\r'), 0)], "\n"))
	}
}

func TestNames(t *testing.T) { // P7.1
	is(t, "_a1 A", name(0, "_a1"), name(0, "A"))
	for _, s := range []string{"_", "__", "a", "Z", "z0", "w1", "_16w1f", "key", "abcdefghijklmnopqrstuvwxyz", "ABCDEFGHIJKLMNOPQRSTUVWXYZ", "a0123456789_"} {
		is(t, s, name(0, s))
	}
	long := strings.Repeat("n9_N", 64)[:255]
	is(t, long, name(0, long))
	is(t, "\n"+long+" "+long, name(1, long), name(1, long))
	for _, s := range []string{long + "n", long + "9", long + "_", long + long, strings.Repeat("a", api.MaxSource)} {
		fails(t, s, 0)
	}
	fails(t, "a\n"+long+"\n "+long+"0\n", 2)
	is(t, long+"."+long, name(0, long), sign(0, "."), name(0, long))
}

func TestWholeNumbers(t *testing.T) { // P7.1
	is(t, "0 2147483647 1w0", whole(0, 0), whole(0, 2147483647), lit(0, 1, 0, 0))
	for _, s := range []string{"1", "9", "10", "99", "100", "65536", "1000000000", "2147483646"} {
		n, _ := strconv.ParseUint(s, 10, 64)
		is(t, s, whole(0, n))
	}
	for _, s := range []string{"00", "01", "007", "0000000000", "02147483647", "2147483648", "2147483650", "4294967295", "4294967296", "9999999999",
		"18446744073709551615", "18446744073709551616", "18446744073709551617", "36893488147419103233", strings.Repeat("1", 300), strings.Repeat("0", api.MaxSource)} {
		fails(t, s, 0)
	}
	is(t, "-1", sign(0, "-"), whole(0, 1))
	is(t, "1.5", whole(0, 1), sign(0, "."), whole(0, 5))
	is(t, "1+2", whole(0, 1), sign(0, "+"), whole(0, 2))
}

func TestNumbers(t *testing.T) { // P7.1
	is(t, "1w1 4wf 64wffffffffffffffff", lit(0, 1, 0, 1), lit(0, 4, 0, 15), lit(0, 64, 0, 1<<64-1))
	is(t, "65w1ffffffffffffffff", lit(0, 65, 1, 1<<64-1))
	is(t, "128wffffffffffffffffffffffffffffffff", lit(0, 128, 1<<64-1, 1<<64-1))
	is(t, "128w10000000000000002", lit(0, 128, 1, 2))
	is(t, "128w0", lit(0, 128, 0, 0))
	for _, s := range []string{"5a", "16wA", "16w01", "16w00", "4w10", "1w2", "129w0", "0w0", "00w0", "01w1", "16w", "16W1", "16w1w1", "16wg", "16w_1", "1_6w1", "16w1_",
		"1_0", "0x10", "0b1", "0o7", "1e3", "1a", "9_", "65w20000000000000000", "128w100000000000000000000000000000000", "1280w0", "18446744073709551632w1",
		"128w" + strings.Repeat("0", 33), "16w" + strings.Repeat("f", api.MaxSource-3)} {
		fails(t, s, 0)
	}
	is(t, "16 w1", whole(0, 16), name(0, "w1"))
	is(t, "4w1.4w2", lit(0, 4, 0, 1), sign(0, "."), lit(0, 4, 0, 2))
}

func TestSigns(t *testing.T) { // P7.1
	for _, s := range allSigns {
		is(t, s, sign(0, s))
		is(t, "\n"+s+"\n"+s, sign(1, s), sign(2, s))
		is(t, "a"+s+"1", name(0, "a"), sign(0, s), whole(0, 1))
	}
	for _, s := range []string{"!", ">", "/", "\"", "'", "#", "$", "%", "?", "@", "\\", "`", ">=", "!!", "> >", "! =", "/ /", "/*", "=>", "===!", "é", "\x80", "\xff"} {
		fails(t, s, 0)
	}
	is(t, "===", sign(0, "=="), sign(0, "="))
	is(t, "<<=", sign(0, "<<"), sign(0, "="))
	is(t, "<=<", sign(0, "<="), sign(0, "<"))
	is(t, "<<<", sign(0, "<<"), sign(0, "<"))
	is(t, "+++++", sign(0, "++"), sign(0, "++"), sign(0, "+"))
	is(t, "= =", sign(0, "="), sign(0, "="))
	is(t, "&\n&", sign(0, "&"), sign(1, "&"))
	is(t, ">>!=||", sign(0, ">>"), sign(0, "!="), sign(0, "||"))
}

func TestFaultLines(t *testing.T) { // P7.1, R2
	fails(t, "a\n\n$", 2)
	fails(t, "$\n$\n", 0)
	fails(t, "a // $\n// $\n 01 \n02", 2)
	fails(t, "ok\nfine\n\n\n5a", 4)
	fails(t, "\n\n\n>", 3)
	fails(t, "a\n/", 1)
	fails(t, "a\n/\n/", 1)
	fails(t, "//\n//\n//\n\xc3\n", 3)
	fails(t, "\xe2\n\x82\n", 0)
	fails(t, "// \xe2\n// \xe2\x82\n!", 2)
	fails(t, strings.Repeat("\n", api.MaxSource-1)+"!", api.MaxSource-1)
}

func TestLimit(t *testing.T) { // P7.1
	is(t, strings.Repeat(" ", api.MaxSource))
	is(t, strings.Repeat(" ", api.MaxSource-1)+"a", name(0, "a"))
	is(t, strings.Repeat("\n", api.MaxSource-1)+"a", name(api.MaxSource-1, "a"))
	most := slices.Repeat([]api.Word{sign(0, "{")}, api.MaxSource)
	is(t, strings.Repeat("{", api.MaxSource), most...)
	for _, s := range []string{strings.Repeat(" ", 65537), strings.Repeat("\n", 65537), strings.Repeat("$", 65537), "\n\n$" + strings.Repeat(" ", 65534), strings.Repeat("a ", 1<<20)} {
		if l, line, e := lex.Words(s); len(l) != 0 || line != 0 || e != api.ErrLimit {
			t.Errorf("Words of %d bytes: %d words, %d, %d", len(s), len(l), line, e)
		}
	}
}

func TestAnyTwoBytes(t *testing.T) { // P7.1, R1
	for a := range 256 {
		for b := range 256 {
			if s := string([]byte{byte(a), byte(b)}); !alike(t, s) {
				return
			}
		}
	}
}

func TestAnyFourSigns(t *testing.T) { // P7.1
	const set = "=!<>+&|/ \na"
	for n := range len(set) * len(set) * len(set) * len(set) {
		var b []byte
		for range 4 {
			b = append(b, set[n%len(set)])
			n /= len(set)
		}
		if !alike(t, string(b)) {
			return
		}
	}
}

// piece is a part of a text: mostly words and what is idle, seldom what is neither.
func piece(r *rand.Rand, wrong int) string {
	switch r.IntN(9 + wrong) {
	case 0, 1:
		return allSigns[r.IntN(len(allSigns))]
	case 2, 3:
		return []string{"a", "B1", "_", "w", "key", "h2o"}[r.IntN(6)]
	case 4:
		return strconv.Itoa(r.IntN(300))
	case 5:
		return strconv.Itoa(1+r.IntN(128)) + "w" + strconv.Itoa(r.IntN(2))
	case 6, 7:
		return []string{" ", "\t", "\n", " \n\t"}[r.IntN(4)]
	case 8:
		return []string{"// so\n", "//\n", "//=\xff\n", " // 5a\n\n"}[r.IntN(4)]
	case 9:
		return string([]byte{byte(r.IntN(256))})
	}
	return []string{"01", "!", ">", "/", "5a", "4w10", "\r", "//"}[r.IntN(8)]
}

func mixed(r *rand.Rand, wrong int) string {
	var b strings.Builder
	for range r.IntN(20) {
		b.WriteString(piece(r, wrong))
		if r.IntN(2) == 0 {
			b.WriteByte(' ')
		}
	}
	return b.String()
}

func TestMixedTexts(t *testing.T) { // P7.1, R1
	r := dice()
	good := 0
	for n := range 20000 {
		s := mixed(r, n%3)
		if !alike(t, s) {
			return
		}
		if _, _, e := lex.Words(s); e == api.OK {
			good++
		}
	}
	if good < 2000 || good > 18000 {
		t.Errorf("%d of 20000 texts have words: the sample says too little", good)
	}
}

func TestAnyBytes(t *testing.T) { // P7.1, R1
	r := dice()
	for range 5000 {
		b := make([]byte, r.IntN(12))
		for i := range b {
			b[i] = byte(r.IntN(256)) & (127 | byte(r.IntN(2))<<7)
		}
		if !alike(t, string(b)) {
			return
		}
	}
}

// asItStands is a word's text.
func asItStands(w api.Word) string {
	switch w.Kind {
	case api.WInt:
		return strconv.FormatUint(w.N.Lo, 10)
	case api.WLit:
		v := new(big.Int).Lsh(new(big.Int).SetUint64(w.N.Hi), 64)
		return strconv.Itoa(w.N.W) + "w" + v.Add(v, new(big.Int).SetUint64(w.N.Lo)).Text(16)
	}
	return w.S
}

// behind is words that stand so many lines further down.
func behind(l []api.Word, lines int) []api.Word {
	l = slices.Clone(l)
	for i := range l {
		l[i].Line += lines
	}
	return l
}

func TestBlanksMakeNoDifference(t *testing.T) { // P7.2
	r := dice()
	for range 5000 {
		s := mixed(r, 0)
		l, _, e := lex.Words(s)
		if e != api.OK {
			continue
		}
		if !slices.IsSortedFunc(l, func(a, b api.Word) int { return a.Line - b.Line }) {
			t.Fatalf("Words(%q) = %v: lines fall", s, l)
		}
		var texts, apart []string
		for i := range l {
			l[i].Line = 0
			texts = append(texts, asItStands(l[i]))
			apart = append(apart, []string{" ", "\t ", "  \t"}[r.IntN(3)])
		}
		is(t, strings.Join(texts, " "), l...)
		loose := ""
		for i := range texts {
			loose += apart[i] + texts[i]
		}
		is(t, loose+" ", l...)
	}
}

func TestTextsBelowOneAnother(t *testing.T) { // P7.2
	r := dice()
	for n := range 10000 {
		a, b := mixed(r, n%2), mixed(r, n%2)
		al, aline, ae := lex.Words(a)
		bl, bline, be := lex.Words(b)
		down := strings.Count(a, "\n") + 1
		both := a + "\n" + b
		switch {
		case ae != api.OK:
			fails(t, both, aline)
		case be != api.OK:
			fails(t, both, down+bline)
		default:
			is(t, both, append(al, behind(bl, down)...)...)
		}
	}
}

func TestAnswersAreNewMemory(t *testing.T) { // R4, R5
	const s = "a.b = 16w1f; // so\nx<=y 7"
	first, _, _ := lex.Words(s)
	want := slices.Clone(first)
	second, _, _ := lex.Words(s)
	second = second[:cap(second)]
	for i := range second {
		second[i] = api.Word{Kind: 99, S: "other", Line: -1}
	}
	if !slices.Equal(first, want) {
		t.Errorf("a change of one answer is seen in another: %v", first)
	}
	is(t, s, want...)
}
