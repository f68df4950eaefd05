package cache

import "pointsman/api"

// teller tells things byte by byte, as long as it is asked for more. What it answers is whether it still is.
type teller struct {
	yield func(b byte) bool
}

// A word is told in bytes of seven of its bits, the lowest first; a bit above them says that more follow.
const (
	sevenBits = 7
	more      = 1 << sevenBits
)

func (t teller) word(n uint64) bool {
	for ; n >= more; n >>= sevenBits {
		if !t.yield(byte(n) | more) {
			return false
		}
	}
	return t.yield(byte(n))
}

func (t teller) numbers(l ...int) bool {
	for _, n := range l {
		if !t.word(uint64(n)) {
			return false
		}
	}
	return true
}

// list tells one behind the other, and how many there are ahead of them.
func list[T any](t teller, l []T, tell func(x *T) bool) bool {
	if !t.numbers(len(l)) {
		return false
	}
	for i := range l {
		if !tell(&l[i]) {
			return false
		}
	}
	return true
}

func (t teller) ints(l []int) bool { return t.numbers(len(l)) && t.numbers(l...) }

func (t teller) text(s *string) bool {
	if !t.numbers(len(*s)) {
		return false
	}
	for i := range len(*s) {
		if !t.yield((*s)[i]) {
			return false
		}
	}
	return true
}

func (t teller) texts(l ...string) bool { return list(t, l, t.text) }

func (t teller) bits(b *api.Bits) bool { return t.numbers(b.W) && t.word(b.Hi) && t.word(b.Lo) }

func (t teller) rows(r *api.Rows) bool {
	return t.texts(r.Name, r.Default) && list(t, r.Args, t.bits) && list(t, r.Entries, t.entry)
}

func (t teller) entry(e *api.Entry) bool {
	return t.numbers(e.Priority) && t.text(&e.Action) && list(t, e.Args, t.bits) && list(t, e.Matches, t.match)
}

func (t teller) match(m *api.Match) bool {
	return t.bits(&m.Value) && t.bits(&m.Mask) && t.numbers(m.Len)
}
