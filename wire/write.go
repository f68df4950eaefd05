package wire

import (
	"pointsman/api"
	"pointsman/bits"
)

// writer tells a body. What may not be told leaves it by must.
type writer struct {
	body []byte
	size int // how many bytes the body would have: those above MaxFrame are counted, but not kept
}

// text goes on counting above the limit, as what may not be told counts ahead of it, wherever it stands.
func (w *writer) text(s string) {
	w.size += len(s)
	if w.size <= api.MaxFrame {
		w.body = append(w.body, s...)
	}
}

func (w *writer) put(l ...byte) { w.text(string(l)) }

func (w *writer) byte(n int) {
	must(n >= 0 && n <= mostByte)
	w.put(byte(n))
}

func (w *writer) long(n int) {
	must(n >= 0 && n <= mostLong)
	w.put(byte(n>>byteBits), byte(n))
}

func (w *writer) whole(n int) {
	must(n >= 0 && n <= mostWhole)
	l := wholeOf(uint32(n))
	w.put(l[:]...)
}

func (w *writer) name(s string) {
	w.byte(len(s))
	w.text(s)
}

func (w *writer) number(b api.Bits) {
	w.byte(b.W)
	if b == (api.Bits{}) {
		return
	}
	l, e := bits.Bytes(b)
	must(e == api.OK)
	w.put(l...)
}

func list[T any](size func(int), l []T, item func(T)) {
	size(len(l))
	for _, x := range l {
		item(x)
	}
}

// moved takes a field's value out of what is being told: what a row leaves there is no part of it, and must be zero.
func moved[T any](field *T) T {
	var zero T
	x := *field
	*field = zero
	return x
}

func (w *writer) request(r api.Request) {
	tell := chosen(map[api.RequestKind]func(*api.Request){
		api.RqInstall: w.install,
		api.RqWrite:   w.write,
		api.RqRead:    w.read,
		api.RqCells:   w.cells,
	}, r.Kind)
	w.byte(int(r.Kind))
	tell(&r)
	must(r.Source == "" && r.Table == "" && r.N == 0 && len(r.Updates) == 0)
}

func (w *writer) install(r *api.Request) { w.text(moved(&r.Source)) }

func (w *writer) write(r *api.Request) { list(w.batch, moved(&r.Updates), w.update) }

func (w *writer) batch(n int) {
	must(n <= api.MaxBatch)
	w.byte(n)
}

func (w *writer) read(r *api.Request) { w.name(moved(&r.Table)) }

func (w *writer) cells(r *api.Request) {
	w.read(r)
	w.whole(moved(&r.N))
}

func (w *writer) update(u api.Update) {
	tell := chosen(map[api.UpdateKind]func(*api.Update){
		api.UpInsert:  w.change,
		api.UpModify:  w.change,
		api.UpDelete:  w.change,
		api.UpDefault: w.other,
		api.UpGroup:   w.group,
	}, u.Kind)
	w.byte(int(u.Kind))
	tell(&u)
	must(u.Table == "" && u.N == 0 && len(u.Ports) == 0)
	must(len(u.Entry.Matches) == 0 && u.Entry.Priority == 0)
	must(u.Entry.Action == "" && len(u.Entry.Args) == 0)
}

func (w *writer) change(u *api.Update) {
	w.name(moved(&u.Table))
	w.entry(moved(&u.Entry))
}

// other tells an update by which a table has another default.
func (w *writer) other(u *api.Update) {
	w.name(moved(&u.Table))
	w.action(moved(&u.Entry.Action), moved(&u.Entry.Args))
}

func (w *writer) group(u *api.Update) {
	w.whole(moved(&u.N))
	list(w.byte, moved(&u.Ports), w.whole)
}

func (w *writer) entry(e api.Entry) {
	list(w.byte, e.Matches, w.match)
	w.whole(e.Priority)
	w.action(e.Action, e.Args)
}

func (w *writer) action(name string, args []api.Bits) {
	w.name(name)
	list(w.byte, args, w.number)
}

func (w *writer) match(m api.Match) {
	w.number(m.Value)
	w.number(m.Mask)
	w.whole(m.Len)
}

func (w *writer) reply(r api.Reply) {
	w.byte(int(r.Error))
	w.whole(r.At)
	list(w.long, r.Entries, w.entry)
	w.number(r.Value)
}
