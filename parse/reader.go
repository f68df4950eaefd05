package parse

import "pointsman/api"

// meta is what the metadata's fields are told with.
const meta = "meta"

// reader goes through words, and passes only those behind which a program may still come. Any other leaves it by must.
type reader struct {
	words []api.Word // the last one is WEnd: it is no part of anything, and is never passed
	at    int
	decls map[string]func() api.Decl // by their first words
	stmts map[string]func() api.Stmt // likewise, but those that begin with a name of their own
}

// readerOf lays the end of the words in the line of the last one, as that is the line of words that end too early.
func readerOf(words []api.Word) *reader {
	var end api.Word
	if n := len(words); n > 0 {
		end.Line = words[n-1].Line
	}
	r := &reader{words: append(words, end)}
	r.decls = r.declRows()
	r.stmts = r.stmtRows()
	return r
}

// none is what must panics with: Parse asks no more than that there was a panic.
type none struct{}

// must leaves all that is being read, however deep within it, if the word ahead may not stand there.
func must(ok bool) {
	if !ok {
		panic(none{})
	}
}

func (r *reader) ahead() api.Word { return r.words[r.at] }

// is asks for a sign or a key word by its text alone: no other word has that text.
func (r *reader) is(text string) bool { return r.ahead().S == text }

func (r *reader) passed(text string) bool {
	ok := r.is(text)
	if ok {
		r.at++
	}
	return ok
}

func (r *reader) pass(texts ...string) {
	for _, text := range texts {
		must(r.passed(text))
	}
}

func (r *reader) take(kind api.WordKind) api.Word {
	w := r.ahead()
	must(w.Kind == kind)
	r.at++
	return w
}

func (r *reader) whole() int { return int(r.take(api.WInt).N.Lo) }

func (r *reader) lit() api.Bits { return r.take(api.WLit).N }

func (r *reader) name() string {
	must(!isKeyWord(r.ahead().S))
	return r.take(api.WName).S
}

// owner is whose field is named behind it.
func (r *reader) owner() string {
	if r.passed(meta) {
		return meta
	}
	return r.name()
}

// fieldOf is what stands behind an owner.
func (r *reader) fieldOf() string {
	r.pass(".")
	return r.name()
}

// until reads things up to the word that ends them, and that one.
func until[T any](r *reader, end string, thing func() T) []T {
	var l []T
	for !r.passed(end) {
		l = append(l, thing())
	}
	return l
}

// rows reads things with a semicolon behind each.
func rows[T any](r *reader, end string, thing func() T) []T {
	return until(r, end, func() T { return closed(r, thing) })
}

func closed[T any](r *reader, thing func() T) T {
	x := thing()
	r.pass(";")
	return x
}

// some reads one thing or more, with commas between.
func some[T any](r *reader, thing func() T) []T {
	l := []T{thing()}
	for r.passed(",") {
		l = append(l, thing())
	}
	return l
}

// bracketed reads brackets with something in them, or nothing.
func bracketed[T any](r *reader, thing func() T) []T {
	r.pass("(")
	if r.passed(")") {
		return nil
	}
	l := some(r, thing)
	r.pass(")")
	return l
}

func isKeyWord(s string) bool {
	switch s {
	case "header", meta, "register", "counter", "meter", "parser", "action", "table", "control", "deparser",
		"key", "actions", "default", "size", "take", "go", "select", "else", "exact", "prefix", "mask", "range",
		"if", "apply", "make", "gone", "count", "read", "write", "random", "drop", "digest", "clone", "again", "round",
		"valid", "cast", "hash":
		return true
	}
	return false
}
