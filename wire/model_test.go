package wire_test

import (
	"bytes"
	"encoding/binary"
	"math/big"
	"math/rand/v2"
	"slices"

	"pointsman/api"
)

// This file tells and asks bodies another way than the package does: the tests hold the package against it.

const mostWhole = 1<<31 - 1

// dice are alike on every run.
func dice() *rand.Rand { return rand.New(rand.NewPCG(6, 9)) }

func valueOf(b api.Bits) *big.Int {
	v := new(big.Int).Lsh(new(big.Int).SetUint64(b.Hi), 64)
	return v.Add(v, new(big.Int).SetUint64(b.Lo))
}

func toldNumber(b api.Bits) []byte {
	if b.W == 0 {
		return []byte{0}
	}
	return append([]byte{byte(b.W)}, valueOf(b).FillBytes(make([]byte, (b.W+7)/8))...)
}

func toldWhole(n int) []byte { return binary.BigEndian.AppendUint32(nil, uint32(n)) }

func toldName(s string) []byte { return append([]byte{byte(len(s))}, s...) }

func toldAll[T any](l []T, one func(T) []byte) []byte {
	var b []byte
	for _, x := range l {
		b = append(b, one(x)...)
	}
	return b
}

func toldList[T any](l []T, one func(T) []byte) []byte {
	return append([]byte{byte(len(l))}, toldAll(l, one)...)
}

func toldMatch(m api.Match) []byte {
	return slices.Concat(toldNumber(m.Value), toldNumber(m.Mask), toldWhole(m.Len))
}

func toldEntry(e api.Entry) []byte {
	return slices.Concat(toldList(e.Matches, toldMatch), toldWhole(e.Priority), toldName(e.Action), toldList(e.Args, toldNumber))
}

func toldUpdate(u api.Update) []byte {
	b := []byte{byte(u.Kind)}
	switch u.Kind {
	case api.UpDefault:
		return slices.Concat(b, toldName(u.Table), toldName(u.Entry.Action), toldList(u.Entry.Args, toldNumber))
	case api.UpGroup:
		return slices.Concat(b, toldWhole(u.N), toldList(u.Ports, toldWhole))
	}
	return slices.Concat(b, toldName(u.Table), toldEntry(u.Entry))
}

func toldRequest(r api.Request) []byte {
	b := []byte{byte(r.Kind)}
	switch r.Kind {
	case api.RqInstall:
		return append(b, r.Source...)
	case api.RqWrite:
		return append(b, toldList(r.Updates, toldUpdate)...)
	case api.RqRead:
		return append(b, toldName(r.Table)...)
	}
	return slices.Concat(b, toldName(r.Table), toldWhole(r.N))
}

func toldReply(r api.Reply) []byte {
	n := binary.BigEndian.AppendUint16(nil, uint16(len(r.Entries)))
	return slices.Concat([]byte{byte(r.Error)}, toldWhole(r.At), n, toldAll(r.Entries, toldEntry), toldNumber(r.Value))
}

func framed(body []byte) []byte { return append(toldWhole(len(body)), body...) }

// A shape says how many bytes it has of those that b begins with; below 0, if b does not begin with it.
type shape func(b []byte) int

func chain(l ...shape) shape {
	return func(b []byte) int {
		n := 0
		for _, s := range l {
			m := s(b[n:])
			if m < 0 {
				return -1
			}
			n += m
		}
		return n
	}
}

func wholeShape(b []byte) int {
	if len(b) < 4 || b[0] > 127 {
		return -1
	}
	return 4
}

func byteShape(b []byte) int {
	if len(b) < 1 {
		return -1
	}
	return 1
}

func nameShape(b []byte) int {
	if len(b) < 1 || len(b)-1 < int(b[0]) {
		return -1
	}
	return 1 + int(b[0])
}

func numberShape(b []byte) int {
	if len(b) < 1 || b[0] > 128 {
		return -1
	}
	w := int(b[0])
	n := (w + 7) / 8
	if len(b) < 1+n || new(big.Int).SetBytes(b[1:1+n]).BitLen() > w {
		return -1
	}
	return 1 + n
}

// listShape has its size in so many bytes.
func listShape(size, most int, one shape) shape {
	return func(b []byte) int {
		if len(b) < size {
			return -1
		}
		n, at := int(new(big.Int).SetBytes(b[:size]).Int64()), size
		if n > most {
			return -1
		}
		for range n {
			m := one(b[at:])
			if m < 0 {
				return -1
			}
			at += m
		}
		return at
	}
}

func entryShape(b []byte) int {
	match := chain(numberShape, numberShape, wholeShape)
	return chain(listShape(1, 255, match), wholeShape, nameShape, listShape(1, 255, numberShape))(b)
}

func updateShape(b []byte) int {
	if len(b) == 0 {
		return -1
	}
	switch b[0] {
	case 1, 2, 3:
		return chain(byteShape, nameShape, entryShape)(b)
	case 4:
		return chain(byteShape, nameShape, nameShape, listShape(1, 255, numberShape))(b)
	case 5:
		return chain(byteShape, wholeShape, listShape(1, 255, wholeShape))(b)
	}
	return -1
}

func isRequest(b []byte) bool {
	if len(b) == 0 {
		return false
	}
	rest, n := b[1:], -1
	switch b[0] {
	case 1:
		n = len(rest)
	case 2:
		n = listShape(1, 64, updateShape)(rest)
	case 3:
		n = nameShape(rest)
	case 4:
		n = chain(nameShape, wholeShape)(rest)
	}
	return n == len(rest)
}

func isReply(b []byte) bool {
	return chain(byteShape, wholeShape, listShape(2, 65535, entryShape), numberShape)(b) == len(b)
}

func sameEntry(a, b api.Entry) bool {
	return slices.Equal(a.Matches, b.Matches) && a.Priority == b.Priority && a.Action == b.Action && slices.Equal(a.Args, b.Args)
}

func sameUpdate(a, b api.Update) bool {
	return a.Kind == b.Kind && a.Table == b.Table && sameEntry(a.Entry, b.Entry) && a.N == b.N && slices.Equal(a.Ports, b.Ports)
}

func sameRequest(a, b api.Request) bool {
	return a.Kind == b.Kind && a.Source == b.Source && a.Table == b.Table && a.N == b.N && slices.EqualFunc(a.Updates, b.Updates, sameUpdate)
}

func sameReply(a, b api.Reply) bool {
	return a.Error == b.Error && a.At == b.At && slices.EqualFunc(a.Entries, b.Entries, sameEntry) && a.Value == b.Value
}

// anyOf makes fewer than n of them.
func anyOf[T any](r *rand.Rand, n int, one func(*rand.Rand) T) []T {
	var l []T
	for range r.IntN(n) {
		l = append(l, one(r))
	}
	return l
}

func anyNumber(r *rand.Rand) api.Bits {
	w := r.IntN(129)
	v := new(big.Int)
	switch r.IntN(4) {
	case 0: // all bits set
		v.Sub(v.Lsh(big.NewInt(1), uint(w)), big.NewInt(1))
	case 1, 2:
		v.SetBytes(mixed(r, 16))
		v.Rsh(v, uint(128-w))
	}
	l := v.FillBytes(make([]byte, 16))
	return api.Bits{W: w, Hi: binary.BigEndian.Uint64(l), Lo: binary.BigEndian.Uint64(l[8:])}
}

func anyWhole(r *rand.Rand) int {
	if r.IntN(8) == 0 {
		return mostWhole - r.IntN(3)
	}
	return r.IntN(mostWhole) >> r.IntN(31)
}

func anyName(r *rand.Rand) string {
	if r.IntN(20) == 0 {
		return string(mixed(r, 253+r.IntN(3)))
	}
	return string(mixed(r, r.IntN(4)))
}

func anyMatch(r *rand.Rand) api.Match {
	return api.Match{Value: anyNumber(r), Mask: anyNumber(r), Len: anyWhole(r)}
}

func anyEntry(r *rand.Rand) api.Entry {
	return api.Entry{Matches: anyOf(r, 4, anyMatch), Priority: anyWhole(r), Action: anyName(r), Args: anyOf(r, 4, anyNumber)}
}

func anyUpdate(r *rand.Rand) api.Update {
	u := api.Update{Kind: api.UpdateKind(1 + r.IntN(5))}
	switch u.Kind {
	case api.UpDefault:
		u.Table, u.Entry.Action, u.Entry.Args = anyName(r), anyName(r), anyOf(r, 4, anyNumber)
	case api.UpGroup:
		u.N, u.Ports = anyWhole(r), anyOf(r, 17, anyWhole)
	default:
		u.Table, u.Entry = anyName(r), anyEntry(r)
	}
	return u
}

func anyRequest(r *rand.Rand) api.Request {
	x := api.Request{Kind: api.RequestKind(1 + r.IntN(4))}
	switch x.Kind {
	case api.RqInstall:
		x.Source = string(mixed(r, r.IntN(300)))
	case api.RqWrite:
		x.Updates = anyOf(r, 8, anyUpdate)
	case api.RqRead:
		x.Table = anyName(r)
	case api.RqCells:
		x.Table, x.N = anyName(r), anyWhole(r)
	}
	return x
}

func anyReply(r *rand.Rand) api.Reply {
	return api.Reply{Error: api.Errno(r.IntN(256)), At: anyWhole(r), Entries: anyOf(r, 5, anyEntry), Value: anyNumber(r)}
}

func mixed(r *rand.Rand, n int) []byte {
	b := make([]byte, n)
	for i := range b {
		b[i] = byte(r.Uint32())
	}
	return b
}

// turned are bytes that are nearly b.
func turned(r *rand.Rand, b []byte) []byte {
	c := bytes.Clone(b)
	for range 1 + r.IntN(2) {
		if len(c) == 0 {
			return append(c, mixed(r, 1)...)
		}
		at := r.IntN(len(c))
		switch r.IntN(5) {
		case 0:
			c[at] = byte(r.Uint32())
		case 1:
			c[at] += byte(r.IntN(3)) - 1
		case 2:
			c = slices.Insert(c, at, byte(r.IntN(6)))
		case 3:
			c = slices.Delete(c, at, at+1)
		case 4:
			c = c[:at]
		}
	}
	return c
}
