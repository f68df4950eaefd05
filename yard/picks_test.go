package yard

import (
	"fmt"
	"math"
	"slices"
	"testing"

	"pointsman/api"
	"pointsman/cache"
	"pointsman/lower"
	"pointsman/wire"
)

// looks is a program of which every pass is kept, one for each first byte. From 8wc0 on a packet has passes more.
const looks = "header h { a 8; } parser { start { take h; go accept; } } action f() { } table t { key { h.a exact; } actions f; default f(); size 1; } control { apply t; if h.a[7:6] == 2w3 { h.a = h.a - 8w40; round; } meta.out = 16w1; } deparser { h; }"

// beside is a switch with a cache beside it that is asked the same, with the picks as the chapter says them.
type beside struct {
	testing.TB
	y      *Yard
	p      api.Program
	code   api.Code
	world  api.World
	cache  *cache.Cache
	hits   int // of caches that are gone
	picks  []int
	passes int // since New
}

func besideOf(t *testing.T, room int, picks []int) *beside {
	t.Helper()
	given := slices.Clone(picks)
	y, e := New(Config{Cache: room, Disk: 1 << 20, Picks: given})
	if e != api.OK {
		t.Fatalf("New: %d", e)
	}
	// What was handed in is not kept.
	for i := range given {
		given[i] ^= i + 1
	}
	b := &beside{TB: t, y: y, picks: picks}
	b.begin(room)
	return b
}

func (b *beside) begin(room int) {
	if b.cache != nil {
		b.hits += b.cache.Hits()
	}
	b.cache, _ = cache.New(room)
}

func (b *beside) pick() int {
	n := b.passes
	b.passes++
	if len(b.picks) == 0 {
		return 0
	}
	return b.picks[n%len(b.picks)]
}

// packet has both go through the passes of a packet.
func (b *beside) packet(first byte) {
	b.Helper()
	bytes, port, again := []byte{first, 9}, 0, true
	for again {
		pass, w, e := b.cache.Run(b.p, b.code, b.world, port, bytes, b.pick())
		if e != api.OK {
			b.Fatalf("Run: %d", e)
		}
		b.world = w
		again, bytes, port = pass.Round, pass.Packet, pass.Port
	}
	b.does(api.Event{Kind: api.EvPacket, Data: []byte{first, 9}})
	b.asks(fmt.Sprintf("a packet %x", first))
}

// asks compares what both keep.
func (b *beside) asks(what string) {
	b.Helper()
	if b.y.cache.Len() != b.cache.Len() || b.y.cache.Hits() != b.cache.Hits() {
		b.Fatalf("%s: %d passes are kept, %d hits; want %d, %d (picks %v, %d passes)", what, b.y.cache.Len(), b.y.cache.Hits(), b.cache.Len(), b.cache.Hits(), b.picks, b.passes)
	}
}

func (b *beside) does(e api.Event) []api.Out {
	b.Helper()
	l, err := b.y.Do(e)
	if err != api.OK {
		b.Fatalf("Do(%+v): %d", e, err)
	}
	return l
}

// request is answered with that error, or, if the power fails, not at all.
func (b *beside) request(r api.Request, want ...api.Errno) {
	b.Helper()
	f, _ := wire.EncodeRequest(r)
	l := b.does(api.Event{Kind: api.EvFrame, Data: f})
	if len(l) != len(want) {
		b.Fatalf("%+v: %+v", r, l)
	}
	for i, o := range l {
		if reply, _, _ := wire.DecodeReply(o.Data); reply.Error != want[i] {
			b.Fatalf("%+v: %+v, want %d", r, reply, want[i])
		}
	}
}

// installs has the program installed; nothing that was kept is any more.
func (b *beside) installs(text string) {
	b.Helper()
	b.request(api.Request{Kind: api.RqInstall, Source: text}, api.OK)
	b.p, b.code, _, _ = lower.Of(text)
	b.world = b.y.World()
	b.cache.Clear()
	b.asks("a program")
}

// packets are many, with few first bytes.
func (b *beside) packets(seed int) {
	for n := range 60 {
		b.packet([]byte{0, 1, 2, 3, 0x80, 0x81, 0xc0, 0xc1, 0xff}[(n*n*seed+n/7)%9])
	}
}

// TestPicks: the k-th pass since New has Picks' at the place k modulo how many there are, 0 if there are none.
func TestPicks(t *testing.T) { // P21.2, R4
	t.Parallel()
	seen := map[int]bool{}
	for _, picks := range [][]int{nil, {0}, {1}, {2}, {-1}, {math.MaxInt}, {math.MinInt}, {0, 1}, {1, 0}, {2, 1, 0}, {0, 0, 1, 2, 3, 1, 2}, {3, -5, math.MaxInt - 1, 7, 1, 1, 0, 2, 5, 3, 1}} {
		for _, room := range []int{0, 2, 3, api.MaxCache} {
			b := besideOf(t, room, picks)
			// A packet with nothing installed has no pass.
			b.does(api.Event{Kind: api.EvPacket, Data: []byte{1}})
			b.installs(looks)
			for seed := range 5 {
				b.packets(seed + 1)
				switch seed {
				case 0:
					b.installs(looks)
				case 1, 3:
					// The power fails: picks go on where they were.
					b.does(api.Event{Kind: api.EvCrash, N: seed})
					b.request(api.Request{Kind: api.RqWrite})
					b.begin(room)
					b.asks("the power failed")
				case 2:
					// What is refused has no pass.
					if _, e := b.y.Do(api.Event{Kind: api.EvPacket, Port: -1}); e != api.ErrArg {
						t.Fatalf("Do: %d", e)
					}
					b.y.Do(api.Event{Kind: api.EvPacket, Data: make([]byte, api.MaxPacket+1)})
				}
			}
			if room == 2 || room == 3 {
				seen[b.hits+b.cache.Hits()] = true
			}
		}
	}
	if len(seen) < 8 {
		t.Errorf("picks make too little of a difference: %v", seen)
	}
}

// TestCleared: with a program that is installed nothing is kept; with a request of any other kind, or one that is refused, all is.
func TestCleared(t *testing.T) { // P21.2
	b := besideOf(t, 4, nil)
	b.installs(looks)
	for _, text := range []string{looks, "", looks, "control { }"} {
		for first := range byte(3) {
			b.packet(first)
			b.packet(first)
		}
		if b.cache.Len() == 0 || b.cache.Hits() == 0 {
			t.Fatalf("nothing is kept of %q", text)
		}
		b.request(api.Request{Kind: api.RqInstall, Source: "("}, api.ErrSyntax)
		b.asks("a program that is refused")
		b.request(api.Request{Kind: api.RqWrite}, api.OK)
		b.asks("no updates")
		b.request(api.Request{Kind: api.RqWrite, Updates: []api.Update{{Kind: api.UpGroup, N: 1, Ports: []int{1}}}}, api.OK)
		b.asks("a group")
		b.world = b.y.World()
		b.request(api.Request{Kind: api.RqWrite, Updates: []api.Update{{Kind: api.UpGroup, N: 99}}}, api.ErrArg)
		b.request(api.Request{Kind: api.RqRead, Table: "x"}, api.ErrName)
		b.does(api.Event{Kind: api.EvTick})
		b.does(api.Event{Kind: api.EvSend, N: 4})
		b.asks("what changes no rows")
		b.installs(text)
	}
}
