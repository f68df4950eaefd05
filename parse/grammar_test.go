package parse_test

import (
	"math/rand/v2"
	"slices"
	"strings"
	"testing"

	"pointsman/api"
	"pointsman/lex"
	"pointsman/parse"
)

// dice are alike on every run.
func dice() *rand.Rand { return rand.New(rand.NewPCG(8, 12)) }

// The chapter's grammar: one rule a line, ¦ between its rows, « »* and « »? for what stands there any number of times, or once at most.
const grammarText = `
program = « decl »*
decl = header NAME { « field ; »* } ¦ meta { « field ; »* } ¦ register NAME INT INT ; ¦ counter NAME INT ; ¦ meter NAME INT INT INT ; ¦ parser { « state »* } ¦ action NAME ( params ) block ¦ table NAME { key { « expr kind ; »* } actions NAME « NAME »* ; default NAME ( lits ) ; size INT ; } ¦ control block ¦ deparser { « NAME ; »* }
field = NAME INT
params = « field « , field »* »?
lits = « LIT « , LIT »* »?
kind = exact ¦ prefix ¦ mask ¦ range
state = NAME { « take NAME ; »* end }
end = go NAME ; ¦ select expr { « case ; »* else NAME ; }
case = LIT « & LIT »? : NAME
block = { « stmt »* }
stmt = FIELD = expr ; ¦ if expr block « else block »? ¦ apply NAME ; ¦ NAME ( args ) ; ¦ make NAME ; ¦ gone NAME ; ¦ count NAME [ expr ] ; ¦ read FIELD = NAME [ expr ] ; ¦ write NAME [ expr ] = expr ; ¦ meter FIELD = NAME [ expr ] ; ¦ random FIELD ; ¦ drop ; ¦ again ; ¦ round ; ¦ digest expr « , expr »* ; ¦ clone INT ;
args = « expr « , expr »* »?
FIELD = NAME . NAME ¦ meta . NAME
expr = both « || both »*
both = cmp « && cmp »*
cmp = bit « cmpsign bit »?
cmpsign = == ¦ != ¦ < ¦ <=
bit = sum « bitsign sum »*
bitsign = & ¦ | ¦ ^
sum = cat « sumsign cat »*
sumsign = + ¦ -
cat = prod « ++ prod »*
prod = shift « * shift »*
shift = un « shiftsign un »*
shiftsign = << ¦ >>
un = ~ un ¦ post
post = prim « [ INT : INT ] »*
prim = LIT ¦ FIELD ¦ NAME ¦ valid NAME ¦ cast INT ( expr ) ¦ hash NAME ( expr « , expr »* ) ¦ ( expr )`

var keyWords = strings.Fields("header meta register counter meter parser action table control deparser key actions default size take go select else exact prefix mask range if apply make gone count read write random drop digest clone again round valid cast hash")

// node is a part of a rule: a word or a rule by its text, or what stands there many times, or once at most.
type node struct {
	text   string
	within []node
	many   bool
}

type grammar map[string][][]node

func readGrammar() grammar {
	g := grammar{}
	for _, line := range strings.Split(strings.TrimSpace(grammarText), "\n") {
		name, rows, _ := strings.Cut(line, " = ")
		for _, row := range strings.Split(rows, " ¦ ") {
			words := strings.Fields(row)
			g[name] = append(g[name], readNodes(&words))
		}
	}
	return g
}

func readNodes(words *[]string) []node {
	var l []node
	for len(*words) > 0 {
		w := (*words)[0]
		*words = (*words)[1:]
		switch w {
		case "«":
			l = append(l, node{within: readNodes(words)})
			// What ended it stands last within it.
			last := &l[len(l)-1]
			n := len(last.within) - 1
			last.many = last.within[n].text == "»*"
			last.within = last.within[:n]
		case "»*", "»?":
			return append(l, node{text: w})
		default:
			l = append(l, node{text: w})
		}
	}
	return l
}

// stack is what is still to come.
type stack struct {
	top  node
	rest *stack
}

func push(l []node, s *stack) *stack {
	for _, n := range slices.Backward(l) {
		s = &stack{n, s}
	}
	return s
}

// heads are the ways in which s may go on: each begins with a word, or is at its end.
func (g grammar) heads(s *stack, out []*stack) []*stack {
	switch {
	case s == nil:
		return append(out, nil)
	case s.top.many:
		return g.heads(push(s.top.within, s), g.heads(s.rest, out))
	case len(s.top.within) > 0:
		return g.heads(push(s.top.within, s.rest), g.heads(s.rest, out))
	case g[s.top.text] == nil:
		return append(out, s)
	}
	for _, row := range g[s.top.text] {
		out = g.heads(push(row, s.rest), out)
	}
	return out
}

func stands(n node, w api.Word) bool {
	switch n.text {
	case "NAME":
		return w.Kind == api.WName && !slices.Contains(keyWords, w.S)
	case "INT":
		return w.Kind == api.WInt
	case "LIT":
		return w.Kind == api.WLit
	}
	return w.S == n.text
}

// wrong is the place of the first word with which no program goes on; of words that end too early that of the last one; -1 of a program.
func (g grammar) wrong(words []api.Word) int {
	ways := g.heads(&stack{top: node{text: "program"}}, nil)
	for i, w := range words {
		var next []*stack
		for _, s := range ways {
			if s != nil && stands(s.top, w) {
				next = g.heads(s.rest, next)
			}
		}
		if len(next) == 0 {
			return i
		}
		ways = next
	}
	if slices.Contains(ways, nil) {
		return -1
	}
	return len(words) - 1
}

// asked holds what Parse answers of these words, each in a line of its own, against the grammar. It says whether they are a program.
func (g grammar) asked(t *testing.T, words []string) bool {
	t.Helper()
	s := strings.Join(words, "\n")
	l, _, e := lex.Words(s)
	if e != api.OK || len(l) != len(words) {
		t.Fatalf("%q are no words", words)
	}
	p, line, e := parse.Parse(s)
	at := g.wrong(l)
	if at < 0 {
		if line != 0 || e != api.OK || len(p) == 0 != (len(words) == 0) {
			t.Fatalf("Parse(%q) = %d declarations, %d, %d", strings.Join(words, " "), len(p), line, e)
		}
		return true
	}
	if len(p) != 0 || line != at || e != api.ErrSyntax {
		t.Fatalf("Parse(%q) = %d declarations, %d, %d, want ErrSyntax %d", strings.Join(words, " "), len(p), line, e, at)
	}
	return false
}

// maker makes programs by the grammar. With nothing left to spend it takes the shortest way.
type maker struct {
	grammar
	*rand.Rand
	least map[string]int
	left  int
}

func newMaker() *maker {
	m := &maker{grammar: readGrammar(), Rand: dice(), least: map[string]int{}}
	for range len(m.grammar) {
		for name := range m.grammar {
			if n := m.leastOf(m.shortest(name)); n < 1000 {
				m.least[name] = n
			}
		}
	}
	return m
}

func (m *maker) shortest(name string) []node {
	return slices.MinFunc(m.grammar[name], func(a, b []node) int { return m.leastOf(a) - m.leastOf(b) })
}

func (m *maker) leastOf(l []node) int {
	sum := 0
	for _, n := range l {
		switch {
		case n.text == "":
		case m.grammar[n.text] == nil:
			sum++
		case m.least[n.text] == 0 && n.text != "params" && n.text != "lits" && n.text != "args" && n.text != "program":
			sum += 1000
		default:
			sum += m.least[n.text]
		}
	}
	return sum
}

var (
	someNames = []string{"a", "b", "h", "t", "x1", "_", "start", "accept", "crc16", "w", "Meta", "ifs"}
	someInts  = []string{"0", "1", "8", "16", "2147483647"}
	someLits  = []string{"1w1", "8wff", "16w0", "128wffffffffffffffffffffffffffffffff", "65w1"}
	allSigns  = strings.Fields("{ } ( ) [ ] ; : , . = == != < <= + - * & | ^ ~ << >> ++ && ||")
)

func pick(r *rand.Rand, l []string) string { return l[r.IntN(len(l))] }

func (m *maker) nodes(l []node, out []string) []string {
	for _, n := range l {
		out = m.node(n, out)
	}
	return out
}

func (m *maker) node(n node, out []string) []string {
	m.left--
	switch {
	case n.many:
		for m.left > 0 && m.IntN(3) > 0 {
			out = m.nodes(n.within, out)
		}
		return out
	case len(n.within) > 0:
		if m.left > 0 && m.IntN(2) > 0 {
			out = m.nodes(n.within, out)
		}
		return out
	case n.text == "NAME":
		return append(out, pick(m.Rand, someNames))
	case n.text == "INT":
		return append(out, pick(m.Rand, someInts))
	case n.text == "LIT":
		return append(out, pick(m.Rand, someLits))
	case m.grammar[n.text] == nil:
		return append(out, n.text)
	case m.left > 0:
		rows := m.grammar[n.text]
		return m.nodes(rows[m.IntN(len(rows))], out)
	}
	return m.nodes(m.shortest(n.text), out)
}

func (m *maker) program(size int) []string {
	m.left = size
	return m.node(node{text: "program"}, nil)
}

func (m *maker) word() string {
	switch m.IntN(6) {
	case 0, 1:
		return pick(m.Rand, keyWords)
	case 2, 3:
		return pick(m.Rand, allSigns)
	case 4:
		return pick(m.Rand, someNames)
	}
	return pick(m.Rand, append(slices.Clone(someInts), someLits...))
}

// turned is words of which some are others, at other places, or away.
func (m *maker) turned(words []string) []string {
	words = slices.Clone(words)
	for range 1 + m.IntN(2) {
		if len(words) == 0 {
			return append(words, m.word())
		}
		i, j := m.IntN(len(words)), m.IntN(len(words))
		switch m.IntN(6) {
		case 0:
			words = slices.Delete(words, i, i+1)
		case 1:
			words = slices.Insert(words, i, m.word())
		case 2:
			words[i] = m.word()
		case 3:
			words[i], words[j] = words[j], words[i]
		case 4:
			words = slices.Insert(words, i, words[j])
		case 5:
			words = words[:i]
		}
	}
	return words
}

func TestProgramsByTheGrammar(t *testing.T) { // P8.1
	m := newMaker()
	long := 0
	for n := range 6000 {
		words := m.program(n % 400)
		if !m.asked(t, words) {
			t.Fatalf("%q is a program", words)
		}
		long += len(words)
	}
	if long < 6000*20 {
		t.Errorf("%d words in all: the sample says too little", long)
	}
}

func TestTurnedPrograms(t *testing.T) { // P8.1
	m := newMaker()
	good := 0
	for n := range 40000 {
		if m.asked(t, m.turned(m.program(n%200))) {
			good++
		}
	}
	if good < 1000 || good > 30000 {
		t.Errorf("%d of 40000 are programs: the sample says too little", good)
	}
}

// wholes have each row of the grammar.
var wholes = []string{
	"header h { a 8 ; b 16 ; } header e { }", "meta { m 8 ; }", "register r 8 16 ;", "counter c 4 ;", "meter q 4 1 9 ;", "deparser { h ; e ; }",
	"parser { start { take h ; take e ; select h . a + p { 8w1 : x ; 8w0 & 8wf : accept ; else reject ; } } x { go accept ; } }",
	"action f ( p 8 , q 16 ) { h . a = ~ p [ 7 : 0 ] ; } action g ( ) { }",
	"table t { key { h . a exact ; meta . m prefix ; h . b mask ; valid h range ; } actions f g ; default f ( 8w1 , 16w0 ) ; size 4 ; }",
	"table u { key { } actions g ; default g ( ) ; size 1 ; }",
	"control { if a && b { apply t ; } else { f ( 8w1 , x . y ) ; g ( ) ; } if a || b == c { } make h ; gone h ; }",
	"control { count c [ 8w1 ] ; read h . a = r [ 8w1 ] ; write r [ 8w1 ] = 8w2 | 8w4 ; meter meta . f = m [ 8w1 ] ; random h . a ; }",
	"control { drop ; again ; round ; digest h . a , h . b ; clone 3 ; meta . out = cast 16 ( h . a ++ b ) * hash crc16 ( a , b << c ) ; }",
}

// TestEveryWord: of programs that have each row, each piece from its beginning on, and each word as every other.
func TestEveryWord(t *testing.T) { // P8.1
	g := readGrammar()
	others := slices.Concat(keyWords, allSigns, []string{"n", "5", "8w5"})
	for _, s := range wholes {
		words := strings.Fields(s)
		if !g.asked(t, words) {
			t.Fatalf("%q is no program", s)
		}
		for i := range words {
			g.asked(t, words[:i])
			g.asked(t, slices.Delete(slices.Clone(words), i, i+1))
			for _, other := range others {
				turned := slices.Clone(words)
				turned[i] = other
				g.asked(t, turned)
				g.asked(t, slices.Insert(slices.Clone(words), i, other))
			}
		}
	}
}

// TestFewWords: any few words behind the beginnings of declarations and statements.
func TestFewWords(t *testing.T) { // P8.1
	g := readGrammar()
	any := slices.Concat(keyWords, allSigns, []string{"n", "5", "8w5"})
	for _, ahead := range []string{"", "control {", "control { a . b =", "control { a . b = c", "control { a . b = c == d", "parser { s {", "parser { s { select a { 8w1", "table t { key {", "table t { key { } actions a", "control { if a { }", "control { f (", "header h {", "action a ("} {
		for _, x := range any {
			for _, y := range any {
				g.asked(t, append(strings.Fields(ahead), x, y))
			}
		}
	}
}
