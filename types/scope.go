package types

import "pointsman/api"

// meta is what the metadata's fields are told with. As a key word it is the name of no header.
const meta = "meta"

// fieldName is a field's name with its header's, or with meta.
type fieldName struct{ owner, field string }

// scope is what names mean where something is gone through.
type scope struct {
	declared map[string]*api.Decl
	fields   map[fieldName]int // how wide
	params   map[string]int    // likewise
	applied  set[string]       // tables, ahead in the control
	inAction bool
	parts    int // expressions that were gone through
}

// scopeOf notes what a program declares, and leaves by a fault if it may not declare that beside what it declared ahead. Declarations need not stand ahead of where they are named.
func scopeOf(p api.Program) *scope {
	s := &scope{declared: map[string]*api.Decl{}, fields: map[fieldName]int{}, applied: set[string]{}}
	s.addFields(meta, ownFields())
	single := set[api.DeclKind]{}
	for i := range p {
		d := &p[i]
		must(i < api.MaxDecls, api.ErrLimit, d.Line)
		switch d.Kind {
		case api.DeMeta, api.DeParser, api.DeControl, api.DeDeparser:
			must(single.add(d.Kind), api.ErrName, d.Line)
		default:
			must(s.declared[d.Name] == nil, api.ErrName, d.Line)
			s.declared[d.Name] = d
		}
		switch d.Kind {
		case api.DeHeader:
			s.addFields(d.Name, d.Fields)
		case api.DeMeta:
			s.addFields(meta, d.Fields)
		}
	}
	return s
}

// ownFields are the fields that the metadata has in any program.
func ownFields() []api.Field { return []api.Field{{Name: "port", W: 16}, {Name: "out", W: 16}} }

func (s *scope) addFields(owner string, fields []api.Field) {
	for _, f := range fields {
		addFirst(s.fields, fieldName{owner, f.Name}, f.W)
	}
}

// addFirst keeps what is there: of several of one name the first one counts. That a header may not have several is told in its turn only.
func addFirst[K comparable](widths map[K]int, name K, w int) {
	if _, there := widths[name]; !there {
		widths[name] = w
	}
}

// with is the scope in which there are params.
func (s *scope) with(params []api.Field) *scope {
	inner := *s
	inner.params = map[string]int{}
	for _, f := range params {
		addFirst(inner.params, f.Name, f.W)
	}
	return &inner
}

// find is what is declared by that name, which must be of that kind.
func (s *scope) find(kind api.DeclKind, name string, line int) *api.Decl {
	d := s.declared[name]
	must(d != nil && d.Kind == kind, api.ErrName, line)
	return d
}

// field is how wide a field is.
func (s *scope) field(owner, field string, line int) int {
	w, ok := s.fields[fieldName{owner, field}]
	must(ok, api.ErrName, line)
	return w
}

func (s *scope) param(name string, line int) int {
	w, ok := s.params[name]
	must(ok, api.ErrName, line)
	return w
}

// set has what was added.
type set[T comparable] map[T]struct{}

// add says whether it was not there.
func (s set[T]) add(x T) bool {
	n := len(s)
	s[x] = struct{}{}
	return len(s) > n
}

func (s set[T]) has(x T) bool {
	_, ok := s[x]
	return ok
}

func within(n, least, most int) bool { return least <= n && n <= most }

func isWidth(w int) bool { return within(w, 1, api.MaxWidth) }
