package print

import (
	"strconv"
	"strings"

	"pointsman/api"
)

// Of more parts than mostParts, and of more than half of mostDeep within one another, the document promises nothing. Lists that lie within themselves, or again and again within others, come to no other end.
const (
	mostParts = 1<<31 - 1
	mostDeep  = 1 << 17
)

// writer puts a program's text together. It goes on where the text is too long already: that a program is no text's tree comes ahead of all limits.
type writer struct {
	strings.Builder
	decls   map[api.DeclKind]layout[api.Decl]
	stmts   map[api.StmtKind]layout[api.Stmt]
	parts   int
	deep    int
	deepest int
	wrong   bool // the program is no text's tree
}

// layout is how things of a kind are written: what stands ahead of all that is written of them, and what behind it. A thing's text tells just what write takes from it.
type layout[T any] struct {
	ahead  string
	write  func(*T)
	behind string
}

func newWriter() *writer {
	w := &writer{}
	w.decls = w.declLayouts()
	w.stmts = w.stmtLayouts()
	return w
}

func (w *writer) aboveLimits() bool {
	return w.parts > api.MaxParts || w.deepest > api.MaxDeep || w.Len() > api.MaxSource
}

// must notes that the program is no text's tree, unless ok.
func (w *writer) must(ok bool) { w.wrong = w.wrong || !ok }

// put keeps no more of a text that is too long than tells that it is.
func (w *writer) put(texts ...string) {
	for _, s := range texts {
		if !w.wrong && w.Len() <= api.MaxSource {
			w.WriteString(s)
		}
	}
}

func (w *writer) name(s string) {
	w.must(isName(s))
	w.put(s)
}

func (w *writer) whole(n int) {
	w.must(isWhole(n))
	w.put(strconv.Itoa(n))
}

func (w *writer) lit(b api.Bits) {
	w.must(isNumber(b))
	w.put(numberText(b))
}

func (w *writer) fieldOf(owner, field string) {
	w.must(owner == meta || isName(owner))
	w.put(owner, ".")
	w.name(field)
}

// row writes things with a text between each two.
func row[T any](w *writer, l []T, write func(T), between string) {
	for i, x := range l {
		if w.wrong || w.parts > mostParts {
			return
		}
		if i > 0 {
			w.put(between)
		}
		write(x)
	}
}

// partRow writes a row of things that are a part each, and stand in one part.
func partRow[T any](w *writer, l []T, write func(T), between string) {
	if len(l) == 0 {
		return
	}
	w.parts += len(l)
	w.deep++
	w.deepest = max(w.deepest, w.deep)
	w.must(w.deep <= mostDeep)
	row(w, l, write, between)
	w.deep--
}

func byLayout[K comparable, T any](w *writer, layouts map[K]layout[T], kind K, thing *T) {
	l, ok := layouts[kind]
	w.must(ok)
	if ok {
		w.put(l.ahead)
		l.write(thing)
		w.put(l.behind)
	}
}

// take leaves nothing where it takes from: what is left of a thing in the end stands in no text.
func take[T any](from *T) T {
	x := *from
	var none T
	*from = none
	return x
}
