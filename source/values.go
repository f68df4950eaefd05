package source

import (
	"pointsman/api"
	"pointsman/bits"
	"pointsman/packet"
	"pointsman/sums"
)

// values are what a pass reckons with: what is in the headers and in the metadata, and in the params of the action that is being done.
type values struct {
	headers map[string]*header
	params  map[string]api.Bits
}

// header is a header of a packet, or the metadata, which is always there.
type header struct {
	there  bool
	list   []api.Field
	fields map[string]api.Bits // each is as wide as it is declared, whether the header is there or not
}

func newHeader(l []api.Field) *header {
	h := &header{list: l, fields: map[string]api.Bits{}}
	h.clear()
	return h
}

func (h *header) clear() {
	for _, f := range h.list {
		h.fields[f.Name] = api.Bits{W: f.W}
	}
}

// blank are the values with which a pass begins, but for its port.
func (n *names) blank() *values {
	v := &values{headers: map[string]*header{}}
	for name, d := range n.decls {
		if d.Kind == api.DeHeader {
			v.headers[name] = newHeader(d.Fields)
		}
	}
	v.headers[metaName] = newHeader(n.meta)
	v.headers[metaName].there = true
	return v
}

// value is what an expression comes to. Its operations have no error: the program may be.
func (v *values) value(e *api.Expr) api.Bits {
	switch e.Op {
	case api.OpLit:
		return e.Lit
	case api.OpField:
		return v.headers[e.Name].fields[e.Field]
	case api.OpParam:
		return v.params[e.Name]
	case api.OpValid:
		return bit(v.headers[e.Name].there)
	case api.OpHash:
		return hash(e.Name, v.all(e.Args))
	}
	a, b := v.value(&e.Args[0]), api.Bits{}
	if len(e.Args) > 1 {
		b = v.value(&e.Args[1])
	}
	done, _ := bits.Do(e.Op, a, b, e.N, e.M)
	return done
}

func (v *values) all(l []api.Expr) []api.Bits {
	var out []api.Bits
	for i := range l {
		out = append(out, v.value(&l[i]))
	}
	return out
}

func (v *values) keys(table *api.Decl) []api.Bits {
	var out []api.Bits
	for i := range table.Keys {
		out = append(out, v.value(&table.Keys[i].Expr))
	}
	return out
}

func bit(b bool) api.Bits {
	if b {
		return api.Bits{W: 1, Lo: 1}
	}
	return api.Bits{W: 1}
}

func hash(name string, l []api.Bits) api.Bits {
	b, _ := packet.Put(l)
	sum, _ := sums.Sum(sums.Find(name), b)
	return sum
}
