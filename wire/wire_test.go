package wire_test

import (
	"bytes"
	"math"
	"math/rand/v2"
	"slices"
	"strings"
	"testing"

	"pointsman/api"
	"pointsman/wire"
)

func num(w int, lo uint64) api.Bits { return api.Bits{W: w, Lo: lo} }

func writes(l ...api.Update) api.Request { return api.Request{Kind: api.RqWrite, Updates: l} }

func requestIs(t *testing.T, r api.Request, want []byte, wantError api.Errno) {
	t.Helper()
	if b, e := wire.EncodeRequest(r); !bytes.Equal(b, want) || e != wantError {
		t.Errorf("EncodeRequest: %d bytes, error %d; want %d bytes, error %d", len(b), e, len(want), wantError)
	}
}

func replyIs(t *testing.T, r api.Reply, want []byte, wantError api.Errno) {
	t.Helper()
	if b, e := wire.EncodeReply(r); !bytes.Equal(b, want) || e != wantError {
		t.Errorf("EncodeReply: %d bytes, error %d; want %d bytes, error %d", len(b), e, len(want), wantError)
	}
}

// reads asks for what is answered of b: with an error, nothing but how many bytes the frame has.
func reads(t *testing.T, b []byte, want api.Request, n int, wantError api.Errno) {
	t.Helper()
	if r, m, e := wire.DecodeRequest(b); !sameRequest(r, want) || m != n || e != wantError {
		t.Fatalf("DecodeRequest of %d bytes: kind %d, %d, error %d; want kind %d, %d, error %d", len(b), r.Kind, m, e, want.Kind, n, wantError)
	}
}

func readsReply(t *testing.T, b []byte, want api.Reply, n int, wantError api.Errno) {
	t.Helper()
	if r, m, e := wire.DecodeReply(b); !sameReply(r, want) || m != n || e != wantError {
		t.Fatalf("DecodeReply of %d bytes: %v, %d, error %d; want %v, %d, error %d", len(b), r.Error, m, e, want.Error, n, wantError)
	}
}

// there and back: the request is told so, and read again, whatever stands behind it.
func thereAndBack(t *testing.T, r api.Request) {
	t.Helper()
	f := framed(toldRequest(r))
	requestIs(t, r, f, api.OK)
	for _, more := range [][]byte{nil, {0}, {255}, f} {
		reads(t, slices.Concat(f, more), r, len(f), api.OK)
	}
}

func thereAndBackReply(t *testing.T, r api.Reply) {
	t.Helper()
	f := framed(toldReply(r))
	replyIs(t, r, f, api.OK)
	for _, more := range [][]byte{nil, {0}, {255}, f} {
		readsReply(t, slices.Concat(f, more), r, len(f), api.OK)
	}
}

func TestExamples(t *testing.T) { // P6.1, P6.2
	read := api.Request{Kind: api.RqRead, Table: "t"}
	requestIs(t, read, []byte{0, 0, 0, 3, 3, 1, 0x74}, api.OK)
	requestIs(t, api.Request{Kind: api.RqInstall, Source: "x"}, []byte{0, 0, 0, 2, 1, 0x78}, api.OK)
	requestIs(t, api.Request{Kind: api.RqInstall, N: 1}, nil, api.ErrArg)
	insert := api.Update{Kind: api.UpInsert, Table: "t", Entry: api.Entry{Matches: []api.Match{{Value: num(8, 5)}}, Priority: 2, Action: "a", Args: []api.Bits{num(12, 0xa05)}}}
	requestIs(t, writes(insert), []byte{0, 0, 0, 0x17, 2, 1, 1, 1, 0x74, 1, 8, 5, 0, 0, 0, 0, 0, 0, 0, 0, 2, 1, 0x61, 1, 0x0c, 0x0a, 5}, api.OK)
	requestIs(t, writes(api.Update{Kind: api.UpGroup, N: 3, Ports: []int{7, 9}}), []byte{0, 0, 0, 0x10, 2, 1, 5, 0, 0, 0, 3, 2, 0, 0, 0, 7, 0, 0, 0, 9}, api.OK)
	reads(t, []byte{0, 0, 0, 3, 3, 1, 0x74, 0xff}, read, 7, api.OK)
	reads(t, []byte{0, 0, 0, 3, 3, 1}, api.Request{}, 0, api.ErrShort)
	reads(t, []byte{0, 1, 0, 1}, api.Request{}, 0, api.ErrLimit)
	reads(t, []byte{0, 0, 0, 3, 3, 2, 0x74}, api.Request{}, 7, api.ErrForm)
	reads(t, []byte{0, 0, 0, 4, 3, 1, 0x74, 0x74}, api.Request{}, 8, api.ErrForm)
	replyIs(t, api.Reply{Error: 6, At: 3}, []byte{0, 0, 0, 8, 6, 0, 0, 0, 3, 0, 0, 0}, api.OK)
	replyIs(t, api.Reply{Value: num(4, 15)}, []byte{0, 0, 0, 9, 0, 0, 0, 0, 0, 0, 0, 4, 0x0f}, api.OK)
	readsReply(t, []byte{0, 0, 0, 9, 0, 0, 0, 0, 0, 0, 0, 4, 0x1f}, api.Reply{}, 13, api.ErrForm)
}

func TestRequests(t *testing.T) { // P6.1, P6.2, P6.3
	r := dice()
	for range 3000 {
		thereAndBack(t, anyRequest(r))
	}
}

func TestReplies(t *testing.T) { // P6.1, P6.2, P6.3
	r := dice()
	for range 3000 {
		thereAndBackReply(t, anyReply(r))
	}
}

// TestNumbers: of each width none, one, all bits; and what a number may not be.
func TestNumbers(t *testing.T) { // P6.1, P6.2, P6.3
	of := func(b api.Bits) api.Request {
		return writes(api.Update{Kind: api.UpDefault, Entry: api.Entry{Args: []api.Bits{b}}})
	}
	for w := range 129 {
		hi, lo := uint64(1)<<max(w-64, 0)-1, uint64(1)<<min(w, 64)-1
		for _, b := range []api.Bits{{W: w}, {W: w, Lo: lo & 1}, {W: w, Hi: hi, Lo: lo}} {
			thereAndBack(t, of(b))
			thereAndBackReply(t, api.Reply{Value: b})
			thereAndBackReply(t, api.Reply{Entries: []api.Entry{{Matches: []api.Match{{Value: b}, {Mask: b}}}}})
		}
		if w == 128 {
			continue
		}
		// One bit more than there are.
		more := api.Bits{W: w, Lo: lo + 1}
		if w >= 64 {
			more = api.Bits{W: w, Hi: hi + 1}
		}
		mayNot(t, more)
	}
	for _, b := range []api.Bits{{Lo: 1}, {Hi: 1}, {W: 129}, {W: 256}, {W: 255}, {W: -1}, {W: 256 + 8, Lo: 5}, {W: math.MaxInt}, {W: math.MinInt}, {W: 8, Lo: 256}, {W: 64, Hi: 1}} {
		mayNot(t, b)
	}
}

// mayNot: a number that may not be, at each place that has one.
func mayNot(t *testing.T, b api.Bits) {
	t.Helper()
	for _, e := range []api.Entry{{Args: []api.Bits{b}}, {Args: []api.Bits{num(8, 5), b}}, {Matches: []api.Match{{Value: b}}}, {Matches: []api.Match{{Mask: b}}}, {Matches: []api.Match{{}, {Value: num(8, 5), Mask: b}}}} {
		requestIs(t, writes(api.Update{Kind: api.UpInsert, Entry: e}), nil, api.ErrArg)
		replyIs(t, api.Reply{Entries: []api.Entry{{}, e}}, nil, api.ErrArg)
	}
	requestIs(t, writes(api.Update{Kind: api.UpDefault, Entry: api.Entry{Args: []api.Bits{b}}}), nil, api.ErrArg)
	replyIs(t, api.Reply{Value: b}, nil, api.ErrArg)
}

// TestWholes: at each place that has one.
func TestWholes(t *testing.T) { // P6.1, P6.2, P6.3
	requests := func(n int) []api.Request {
		return []api.Request{
			{Kind: api.RqCells, Table: "c", N: n},
			writes(api.Update{Kind: api.UpGroup, N: n}),
			writes(api.Update{Kind: api.UpGroup, Ports: []int{n}}),
			writes(api.Update{Kind: api.UpGroup, Ports: []int{1, n, 2}}),
			writes(api.Update{Kind: api.UpInsert, Entry: api.Entry{Priority: n}}),
			writes(api.Update{Kind: api.UpModify, Entry: api.Entry{Matches: []api.Match{{Len: n}}}}),
			writes(api.Update{Kind: api.UpDelete, Entry: api.Entry{Matches: []api.Match{{}, {Len: n}}}}),
		}
	}
	replies := func(n int) []api.Reply {
		return []api.Reply{{At: n}, {Entries: []api.Entry{{Priority: n}}}, {Entries: []api.Entry{{}, {Matches: []api.Match{{Len: n}}}}}}
	}
	for _, n := range []int{0, 1, 255, 256, 65535, 65536, 1<<24 - 1, 1 << 24, 0x01020304, mostWhole - 1, mostWhole} {
		for _, r := range requests(n) {
			thereAndBack(t, r)
		}
		for _, r := range replies(n) {
			thereAndBackReply(t, r)
		}
	}
	for _, n := range []int{-1, -2, mostWhole + 1, mostWhole + 2, 1 << 32, 1<<32 + 5, math.MaxInt, math.MinInt} {
		for _, r := range requests(n) {
			requestIs(t, r, nil, api.ErrArg)
		}
		for _, r := range replies(n) {
			replyIs(t, r, nil, api.ErrArg)
		}
	}
}

func TestNames(t *testing.T) { // P6.1, P6.3
	of := func(s string) []api.Request {
		return []api.Request{
			{Kind: api.RqRead, Table: s}, {Kind: api.RqCells, Table: s},
			writes(api.Update{Kind: api.UpInsert, Table: s}), writes(api.Update{Kind: api.UpDelete, Entry: api.Entry{Action: s}}),
			writes(api.Update{Kind: api.UpDefault, Table: s}), writes(api.Update{Kind: api.UpDefault, Entry: api.Entry{Action: s}}),
		}
	}
	for _, s := range []string{"", "a", "\x00", "\xff\xfe", "a b\n", strings.Repeat("n", 254), strings.Repeat("\xc3", 255)} {
		for _, r := range of(s) {
			thereAndBack(t, r)
		}
		thereAndBackReply(t, api.Reply{Entries: []api.Entry{{Action: s}}})
	}
	for _, n := range []int{256, 257, 511, 512, 70000} {
		s := strings.Repeat("n", n)
		for _, r := range of(s) {
			requestIs(t, r, nil, api.ErrArg)
		}
		replyIs(t, api.Reply{Entries: []api.Entry{{Action: s}}}, nil, api.ErrArg)
	}
}

func TestLists(t *testing.T) { // P6.1, P6.3
	of := func(n int) []api.Update {
		return []api.Update{
			{Kind: api.UpInsert, Entry: api.Entry{Matches: make([]api.Match, n)}},
			{Kind: api.UpModify, Entry: api.Entry{Args: make([]api.Bits, n)}},
			{Kind: api.UpDefault, Entry: api.Entry{Args: make([]api.Bits, n)}},
			{Kind: api.UpGroup, Ports: make([]int, n)},
		}
	}
	for _, n := range []int{0, 1, 17, 64, 65, 254, 255} {
		for _, u := range of(n) {
			thereAndBack(t, writes(u))
		}
	}
	for _, n := range []int{256, 257, 511, 512, 70000} {
		for _, u := range of(n) {
			requestIs(t, writes(u), nil, api.ErrArg)
			replyIs(t, api.Reply{Entries: []api.Entry{u.Entry, {Args: make([]api.Bits, n)}}}, nil, api.ErrArg)
		}
	}
}

func TestBatches(t *testing.T) { // P6.1, P6.2, P6.3
	one := api.Update{Kind: api.UpGroup, N: 1}
	for _, n := range []int{0, 1, 2, 63, 64} {
		thereAndBack(t, writes(slices.Repeat([]api.Update{one}, n)...))
	}
	for _, n := range []int{65, 66, 255, 256, 257, 320, 10000} {
		requestIs(t, writes(slices.Repeat([]api.Update{one}, n)...), nil, api.ErrArg)
	}
	for _, n := range []int{65, 66, 255} {
		f := framed(slices.Concat([]byte{2, byte(n)}, bytes.Repeat(toldUpdate(one), n)))
		reads(t, f, api.Request{}, len(f), api.ErrForm)
	}
}

// TestManyEntries: as many as a frame has room for, more, and more than two bytes can tell.
func TestManyEntries(t *testing.T) { // P6.1, P6.2, P6.3
	// An empty entry has 7 bytes, and all else of a reply with the Value 1w0 has 9.
	most := (api.MaxFrame - 9) / 7
	for _, n := range []int{255, 256, 257, 4096, most} {
		thereAndBackReply(t, api.Reply{Entries: make([]api.Entry, n), Value: num(1, 0)})
	}
	for _, n := range []int{most + 1, 65534, 65535} {
		replyIs(t, api.Reply{Entries: make([]api.Entry, n), Value: num(1, 0)}, nil, api.ErrLimit)
	}
	for _, n := range []int{65536, 65537, 70000, 131072, 131073} {
		replyIs(t, api.Reply{Entries: make([]api.Entry, n)}, nil, api.ErrArg)
	}
}

// TestLimit: bodies of just MaxFrame bytes and of one more.
func TestLimit(t *testing.T) { // P6.1, P6.2, P6.3
	for _, n := range []int{0, 1, 255, 256, 65534, api.MaxFrame - 1} {
		thereAndBack(t, api.Request{Kind: api.RqInstall, Source: strings.Repeat("s", n)})
	}
	for _, n := range []int{api.MaxFrame, api.MaxFrame + 1, 2 * api.MaxFrame, 1 << 20} {
		requestIs(t, api.Request{Kind: api.RqInstall, Source: strings.Repeat("s", n)}, nil, api.ErrLimit)
	}
	for _, n := range []int{api.MaxFrame - 1, api.MaxFrame, api.MaxFrame + 1, api.MaxFrame + 100} {
		b := writes(filled(n - 2)...)
		r := api.Reply{Entries: entriesOf(n - 8)}
		if len(toldRequest(b)) != n || len(toldReply(r)) != n {
			t.Fatalf("bodies of %d and %d bytes", len(toldRequest(b)), len(toldReply(r)))
		}
		if n > api.MaxFrame {
			requestIs(t, b, nil, api.ErrLimit)
			replyIs(t, r, nil, api.ErrLimit)
			continue
		}
		thereAndBack(t, b)
		thereAndBackReply(t, r)
	}
}

// entriesOf are entries of n bytes in all.
func entriesOf(n int) []api.Entry {
	var l []api.Entry
	for n > 2000 {
		l = append(l, api.Entry{Args: slices.Repeat([]api.Bits{num(40, 5)}, 155), Action: "abc"}) // 940 bytes
		n -= 940
	}
	for n > 300 {
		l = append(l, api.Entry{})
		n -= 7
	}
	return append(l, api.Entry{Action: strings.Repeat("a", n/2-7)}, api.Entry{Action: strings.Repeat("a", n-n/2-7)})
}

// filled are updates of n bytes in all.
func filled(n int) []api.Update {
	var l []api.Update
	for n > 2500 {
		l = append(l, api.Update{Kind: api.UpDefault, Entry: api.Entry{Args: slices.Repeat([]api.Bits{num(64, 5)}, 250)}}) // 2254 bytes
		n -= 2254
	}
	for n > 900 {
		l = append(l, api.Update{Kind: api.UpGroup, Ports: make([]int, 100)}) // 406 bytes
		n -= 406
	}
	for n > 450 {
		l = append(l, api.Update{Kind: api.UpDefault, Table: strings.Repeat("t", 100)}) // 104 bytes
		n -= 104
	}
	return append(l, api.Update{Kind: api.UpDefault, Table: strings.Repeat("t", n/2), Entry: api.Entry{Action: strings.Repeat("a", n-n/2-4)}})
}

// TestArgAheadOfLimit: what may not be told stands far behind the limit, and is told ahead of it.
func TestArgAheadOfLimit(t *testing.T) { // P6.1
	long := api.Update{Kind: api.UpModify, Entry: api.Entry{Args: slices.Repeat([]api.Bits{{W: 128, Hi: 1, Lo: 1}}, 255)}}
	l := slices.Repeat([]api.Update{long}, 63)
	requestIs(t, writes(append(l, long)...), nil, api.ErrLimit)
	requestIs(t, writes(append(l, api.Update{Kind: api.UpGroup, N: -1})...), nil, api.ErrArg)
	requestIs(t, writes(append(l, api.Update{})...), nil, api.ErrArg)
	requestIs(t, api.Request{Kind: api.RqInstall, Source: strings.Repeat("s", 70000), N: 1}, nil, api.ErrArg)
	entries := slices.Repeat([]api.Entry{long.Entry}, 63)
	replyIs(t, api.Reply{Entries: entries}, nil, api.ErrLimit)
	replyIs(t, api.Reply{Entries: entries, Value: num(4, 16)}, nil, api.ErrArg)
	replyIs(t, api.Reply{Entries: append(entries, api.Entry{Priority: -1})}, nil, api.ErrArg)
}

// TestSharedEntries: one entry handed in so often that its bytes would fill the memory.
func TestSharedEntries(t *testing.T) { // P6.1, R1
	e := api.Entry{Matches: slices.Repeat([]api.Match{{Value: num(128, 1), Mask: num(128, 1)}}, 255)}
	replyIs(t, api.Reply{Entries: slices.Repeat([]api.Entry{e}, 20000)}, nil, api.ErrLimit)
}

// TestOtherFields: of each kind, each field that its row does not name is zero, or it may not be told.
func TestOtherFields(t *testing.T) { // P6.1
	table := func(r *api.Request) { r.Table = "t" }
	n := func(r *api.Request) { r.N = 1 }
	source := func(r *api.Request) { r.Source = "s" }
	updates := func(r *api.Request) { r.Updates = []api.Update{{Kind: api.UpGroup}} }
	below := func(r *api.Request) { r.N = -1 }
	for kind, l := range map[api.RequestKind][]func(*api.Request){
		api.RqInstall: {table, n, below, updates},
		api.RqWrite:   {source, table, n, below},
		api.RqRead:    {source, n, below, updates},
		api.RqCells:   {source, updates},
	} {
		thereAndBack(t, api.Request{Kind: kind})
		for _, f := range l {
			r := api.Request{Kind: kind}
			f(&r)
			requestIs(t, r, nil, api.ErrArg)
		}
		empty := api.Request{Kind: kind, Updates: []api.Update{}}
		requestIs(t, empty, framed(toldRequest(empty)), api.OK)
	}
}

func TestOtherFieldsOfAnUpdate(t *testing.T) { // P6.1
	table := func(u *api.Update) { u.Table = "t" }
	n := func(u *api.Update) { u.N = 1 }
	below := func(u *api.Update) { u.N = -1 }
	ports := func(u *api.Update) { u.Ports = []int{0} }
	matches := func(u *api.Update) { u.Entry.Matches = []api.Match{{}} }
	priority := func(u *api.Update) { u.Entry.Priority = 1 }
	action := func(u *api.Update) { u.Entry.Action = "a" }
	args := func(u *api.Update) { u.Entry.Args = []api.Bits{{}} }
	for kind, l := range map[api.UpdateKind][]func(*api.Update){
		api.UpInsert:  {n, below, ports},
		api.UpModify:  {n, below, ports},
		api.UpDelete:  {n, below, ports},
		api.UpDefault: {n, below, ports, matches, priority},
		api.UpGroup:   {table, matches, priority, action, args},
	} {
		thereAndBack(t, writes(api.Update{Kind: kind}))
		for _, f := range l {
			u := api.Update{Kind: kind}
			f(&u)
			requestIs(t, writes(u), nil, api.ErrArg)
			requestIs(t, writes(api.Update{Kind: kind}, u), nil, api.ErrArg)
		}
		empty := writes(api.Update{Kind: kind, Ports: []int{}, Entry: api.Entry{Matches: []api.Match{}, Args: []api.Bits{}}})
		requestIs(t, empty, framed(toldRequest(empty)), api.OK)
	}
}

func TestKinds(t *testing.T) { // P6.1, P6.2
	for kind := range 256 {
		if kind < 1 || kind > 4 {
			requestIs(t, api.Request{Kind: api.RequestKind(kind)}, nil, api.ErrArg)
			for n := range 12 {
				f := framed(append([]byte{byte(kind)}, make([]byte, n)...))
				reads(t, f, api.Request{}, len(f), api.ErrForm)
			}
		}
		if kind < 1 || kind > 5 {
			requestIs(t, writes(api.Update{Kind: api.UpdateKind(kind)}), nil, api.ErrArg)
			for n := range 16 {
				f := framed(append([]byte{2, 1, byte(kind)}, make([]byte, n)...))
				reads(t, f, api.Request{}, len(f), api.ErrForm)
			}
		}
	}
}

func TestErrorsOfReplies(t *testing.T) { // P6.1, P6.3
	for e := range 256 {
		thereAndBackReply(t, api.Reply{Error: api.Errno(e), At: 7})
	}
	for _, e := range []api.Errno{-1, -256, 256, 257, 65536 + 6, math.MaxInt, math.MinInt} {
		replyIs(t, api.Reply{Error: e}, nil, api.ErrArg)
	}
}

func TestShort(t *testing.T) { // P6.2, P6.3
	for n := range 4 {
		for _, x := range []byte{0, 1, 255} {
			b := bytes.Repeat([]byte{x}, n)
			reads(t, b, api.Request{}, 0, api.ErrShort)
			readsReply(t, b, api.Reply{}, 0, api.ErrShort)
		}
	}
	r := dice()
	for range 200 {
		f := framed(toldRequest(anyRequest(r)))
		g := framed(toldReply(anyReply(r)))
		for n := range f {
			reads(t, f[:n], api.Request{}, 0, api.ErrShort)
		}
		for n := range g {
			readsReply(t, g[:n], api.Reply{}, 0, api.ErrShort)
		}
	}
}

// TestTold: what the first four bytes tell, with and without the bytes that they tell of.
func TestTold(t *testing.T) { // P6.2
	for _, n := range []int{0x10001, 0x10002, 0x1ffff, 0x20000, 0x00ffffff, 0x01000000, 0x01000003, 0x7fffffff, 0x80000000, 0x80000003, 0xfffffffc, 0xffffffff} {
		for _, more := range []int{0, 3, 0x10001, 0x20000} {
			b := append(toldWhole(n), bytes.Repeat([]byte{1}, more)...)
			reads(t, b, api.Request{}, 0, api.ErrLimit)
			readsReply(t, b, api.Reply{}, 0, api.ErrLimit)
		}
	}
	for _, n := range []int{1, 255, 256, 0xffff, 0x10000} {
		b := append(toldWhole(n), bytes.Repeat([]byte{1}, n-1)...)
		reads(t, b, api.Request{}, 0, api.ErrShort)
		readsReply(t, b, api.Reply{}, 0, api.ErrShort)
		b = append(b, 1)
		reads(t, b, api.Request{Kind: api.RqInstall, Source: strings.Repeat("\x01", n-1)}, 4+n, api.OK)
		readsReply(t, b, api.Reply{}, 4+n, api.ErrForm)
	}
	for _, b := range [][]byte{{0, 0, 0, 0}, {0, 0, 0, 0, 3, 1, 0x74}} {
		reads(t, b, api.Request{}, 4, api.ErrForm)
		readsReply(t, b, api.Reply{}, 4, api.ErrForm)
	}
}

// TestBodiesCut: each beginning of a body, framed as it is, and each body with one byte more.
func TestBodiesCut(t *testing.T) { // P6.2
	r := dice()
	for range 300 {
		q, a := toldRequest(anyRequest(r)), toldReply(anyReply(r))
		for n := range q {
			decodes(t, q[:n])
		}
		for n := range a {
			decodes(t, a[:n])
		}
		decodes(t, append(q, 0))
		decodes(t, append(a, 0))
	}
}

// decodes asks for what another reading says of a body, as a request and as a reply.
func decodes(t *testing.T, body []byte) {
	t.Helper()
	f := framed(body)
	r, n, e := wire.DecodeRequest(f)
	if !isRequest(body) {
		reads(t, f, api.Request{}, len(f), api.ErrForm)
	} else if n != len(f) || e != api.OK || !bytes.Equal(toldRequest(r), body) {
		t.Fatalf("DecodeRequest(%x): told as %x, %d, error %d", f, toldRequest(r), n, e)
	} else {
		requestIs(t, r, f, api.OK)
	}
	a, n, e := wire.DecodeReply(f)
	if !isReply(body) {
		readsReply(t, f, api.Reply{}, len(f), api.ErrForm)
	} else if n != len(f) || e != api.OK || !bytes.Equal(toldReply(a), body) {
		t.Fatalf("DecodeReply(%x): told as %x, %d, error %d", f, toldReply(a), n, e)
	} else {
		replyIs(t, a, f, api.OK)
	}
}

func TestBodiesTurned(t *testing.T) { // P6.2, P6.3, R1
	r := dice()
	for range 60000 {
		decodes(t, turned(r, toldRequest(anyRequest(r))))
		decodes(t, turned(r, toldReply(anyReply(r))))
	}
}

func TestBodiesOfAnyBytes(t *testing.T) { // P6.2, P6.3, R1
	r := dice()
	for range 30000 {
		b := make([]byte, r.IntN(40))
		for i := range b {
			b[i] = byte(r.IntN(1 + r.IntN(9)))
		}
		decodes(t, b)
		decodes(t, mixed(r, r.IntN(20)))
	}
	for x := range 256 {
		for y := range 256 {
			decodes(t, []byte{byte(x), byte(y)})
		}
	}
}

// TestMoreToldThanThere: lists that tell more than their bytes can have.
func TestMoreToldThanThere(t *testing.T) { // P6.2, R1
	for _, body := range [][]byte{
		{2, 64}, {2, 64, 5, 0, 0, 0, 1, 255}, {2, 1, 1, 255}, {2, 1, 1, 0, 255}, {3, 255}, {4, 255},
		append([]byte{0, 0, 0, 0, 0, 255, 255}, make([]byte, 60000)...),
		append([]byte{0, 0, 0, 0, 0, 255, 255}, bytes.Repeat([]byte{255}, 65000)...),
		append([]byte{2, 64}, bytes.Repeat([]byte{1}, 65000)...),
	} {
		decodes(t, body)
	}
}

func TestHandedInStays(t *testing.T) { // R4
	r := dice()
	for range 300 {
		x := anyRequest(r)
		f := framed(toldRequest(x))
		room := append(slices.Clone(f), 9, 9, 9)
		was := slices.Clone(room)
		got, _, _ := wire.DecodeRequest(room[:len(f)])
		wire.DecodeReply(room[:len(f)])
		wire.DecodeRequest(room[:len(f)-1])
		if !bytes.Equal(room, was) {
			t.Fatal("the bytes that were handed in are other ones")
		}
		clear(room)
		if !sameRequest(got, x) {
			t.Fatal("a request shares memory with the bytes that it was read from")
		}
		y := anyReply(r)
		g := framed(toldReply(y))
		reply, _, _ := wire.DecodeReply(g)
		clear(g)
		if !sameReply(reply, y) {
			t.Fatal("a reply shares memory with the bytes that it was read from")
		}
	}
}

// spared gives lists spare room with something in it.
func spared[T any](l []T, x T) []T { return append(slices.Clone(l), x, x)[:len(l)] }

func TestToldStays(t *testing.T) { // R4
	matches := spared([]api.Match{{Value: num(8, 5), Mask: num(8, 7), Len: 3}}, api.Match{Len: 9})
	args := spared([]api.Bits{num(3, 1), num(70, 2)}, num(5, 5))
	ports := spared([]int{4, 5}, 6)
	entry := api.Entry{Matches: matches, Priority: 1, Action: "a", Args: args}
	updates := spared([]api.Update{
		{Kind: api.UpInsert, Table: "t", Entry: entry}, {Kind: api.UpGroup, N: 2, Ports: ports},
		{Kind: api.UpDefault, Table: "t", Entry: api.Entry{Action: "b", Args: args}},
	}, api.Update{Table: "spare"})
	entries := spared([]api.Entry{entry, entry}, api.Entry{Action: "spare"})
	r, a := writes(updates...), api.Reply{Error: 1, At: 2, Entries: entries, Value: num(5, 3)}
	f, g := framed(toldRequest(r)), framed(toldReply(a))
	for range 2 {
		requestIs(t, r, f, api.OK)
		replyIs(t, a, g, api.OK)
	}
	bad := a
	bad.Value = num(5, 32)
	replyIs(t, bad, nil, api.ErrArg)
	if !bytes.Equal(framed(toldRequest(r)), f) || !bytes.Equal(framed(toldReply(a)), g) {
		t.Error("what was told is another one")
	}
	if matches[:2][1] != (api.Match{Len: 9}) || args[:3][2] != num(5, 5) || ports[:3][2] != 6 || updates[:4][3].Table != "spare" || entries[:3][2].Action != "spare" {
		t.Error("spare room was written to")
	}
}

func TestAnswersAreTheirOwn(t *testing.T) { // R4, R5
	r := writes(api.Update{Kind: api.UpGroup, N: 1, Ports: []int{2, 3}}, api.Update{Kind: api.UpGroup, N: 1, Ports: []int{2, 3}})
	a := api.Reply{Entries: []api.Entry{{Args: []api.Bits{num(8, 5)}, Matches: make([]api.Match, 3)}, {Args: []api.Bits{num(8, 5)}, Matches: make([]api.Match, 3)}}}
	f, g := framed(toldRequest(r)), framed(toldReply(a))
	for range 2 {
		x, _ := wire.EncodeRequest(r)
		y, _ := wire.EncodeReply(a)
		if !bytes.Equal(x, f) || !bytes.Equal(y, g) {
			t.Fatal("an answer shares memory with one before it")
		}
		clear(x[:cap(x)])
		clear(y[:cap(y)])
		req, _, _ := wire.DecodeRequest(f)
		rep, _, _ := wire.DecodeReply(g)
		if !sameRequest(req, r) || !sameReply(rep, a) {
			t.Fatal("an answer shares memory with one before it")
		}
		filledWith(req.Updates[0].Ports, 7)
		if !slices.Equal(req.Updates[1].Ports, []int{2, 3}) {
			t.Fatal("two lists of one answer share memory")
		}
		filledWith(req.Updates, api.Update{N: 7})
		filledWith(rep.Entries[0].Args, num(9, 9))
		filledWith(rep.Entries[0].Matches, api.Match{Len: 9})
		if !sameEntry(rep.Entries[1], a.Entries[1]) {
			t.Fatal("two lists of one answer share memory")
		}
		filledWith(rep.Entries, api.Entry{Action: "x"})
	}
}

// filledWith writes to a list and to its spare room.
func filledWith[T any](l []T, x T) {
	l = l[:cap(l)]
	for i := range l {
		l[i] = x
	}
}

func BenchmarkDecodeReply(b *testing.B) {
	f := framed(toldReply(api.Reply{Entries: make([]api.Entry, (api.MaxFrame-8)/7)}))
	for b.Loop() {
		wire.DecodeReply(f)
	}
}

func BenchmarkEncodeRequest(b *testing.B) {
	r := rand.New(rand.NewPCG(1, 1))
	x := writes()
	for len(x.Updates) < api.MaxBatch {
		x.Updates = append(x.Updates, anyUpdate(r))
	}
	for b.Loop() {
		wire.EncodeRequest(x)
	}
}
