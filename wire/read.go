package wire

import (
	"pointsman/api"
	"pointsman/bits"
)

// reader goes through a body. What is none leaves it by must.
type reader struct{ rest []byte }

// take hands out a piece of the body itself: whoever keeps it takes a copy.
func (r *reader) take(n int) []byte {
	must(n <= len(r.rest))
	l := r.rest[:n]
	r.rest = r.rest[n:]
	return l
}

func (r *reader) byte() int { return int(r.take(1)[0]) }

func (r *reader) long() int {
	high := r.byte()
	return high<<byteBits | r.byte()
}

func (r *reader) whole() int {
	n := wholeIn(r.take(wholeBytes)).value()
	must(n <= mostWhole)
	return int(n)
}

func (r *reader) name() string { return string(r.take(r.byte())) }

func (r *reader) number() api.Bits {
	w := r.byte()
	if w == 0 {
		return api.Bits{}
	}
	b, e := bits.Read(w, r.take((w+byteBits-1)/byteBits))
	must(e == api.OK)
	return b
}

// listOf makes no room ahead: the bytes may tell more items than they have.
func listOf[T any](n int, item func() T) []T {
	var l []T
	for range n {
		l = append(l, item())
	}
	return l
}

func (r *reader) request() api.Request {
	kind := api.RequestKind(r.byte())
	x := chosen(map[api.RequestKind]func() api.Request{
		api.RqInstall: r.install,
		api.RqWrite:   r.write,
		api.RqRead:    r.read,
		api.RqCells:   r.cells,
	}, kind)()
	x.Kind = kind
	return x
}

func (r *reader) install() api.Request {
	return api.Request{Source: string(r.take(len(r.rest)))}
}

func (r *reader) write() api.Request {
	n := r.byte()
	must(n <= api.MaxBatch)
	return api.Request{Updates: listOf(n, r.update)}
}

func (r *reader) read() api.Request { return api.Request{Table: r.name()} }

func (r *reader) cells() api.Request {
	x := r.read()
	x.N = r.whole()
	return x
}

func (r *reader) update() api.Update {
	kind := api.UpdateKind(r.byte())
	u := chosen(map[api.UpdateKind]func() api.Update{
		api.UpInsert:  r.change,
		api.UpModify:  r.change,
		api.UpDelete:  r.change,
		api.UpDefault: r.other,
		api.UpGroup:   r.group,
	}, kind)()
	u.Kind = kind
	return u
}

func (r *reader) change() api.Update {
	table := r.name()
	return api.Update{Table: table, Entry: r.entry()}
}

// other is an update by which a table has another default.
func (r *reader) other() api.Update {
	table := r.name()
	return api.Update{Table: table, Entry: r.action()}
}

func (r *reader) group() api.Update {
	n := r.whole()
	return api.Update{N: n, Ports: listOf(r.byte(), r.whole)}
}

func (r *reader) entry() api.Entry {
	matches := listOf(r.byte(), r.match)
	priority := r.whole()
	e := r.action()
	e.Matches, e.Priority = matches, priority
	return e
}

// action is an entry that has nothing but its action and that one's args.
func (r *reader) action() api.Entry {
	name := r.name()
	return api.Entry{Action: name, Args: listOf(r.byte(), r.number)}
}

func (r *reader) match() api.Match {
	value := r.number()
	mask := r.number()
	return api.Match{Value: value, Mask: mask, Len: r.whole()}
}

func (r *reader) reply() api.Reply {
	e := api.Errno(r.byte())
	at := r.whole()
	entries := listOf(r.long(), r.entry)
	return api.Reply{Error: e, At: at, Entries: entries, Value: r.number()}
}
