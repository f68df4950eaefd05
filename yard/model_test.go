package yard_test

import (
	"fmt"
	"math"
	"slices"
	"testing"

	"pointsman/api"
	"pointsman/journal"
	"pointsman/parse"
	"pointsman/rules"
	"pointsman/source"
	"pointsman/types"
	"pointsman/wire"
	"pointsman/yard"
)

// model is a switch as the chapter says it, word for word. Its passes are those by the tree.
type model struct {
	queue, room int
	installed
	waits []api.Out
	kept  int // bytes on the disk
	fails int // below 0: no failure is set
	l     []api.Out
	cuts  int // requests that were cut
	whole int // of these, those that are there nevertheless
}

type installed struct {
	there bool
	p     api.Program
	w     api.World
}

func modelOf(c yard.Config) *model { return &model{queue: c.Queue, room: c.Disk, fails: -1} }

func (m *model) tell(o api.Out) { m.l = append(m.l, o) }

// do is what an event comes to.
func (m *model) do(e api.Event) ([]api.Out, api.Errno) {
	m.l = nil
	plain := api.Event{Kind: e.Kind}
	switch e.Kind {
	case api.EvFrame:
		plain.Data = e.Data
	case api.EvPacket:
		plain.Port, plain.Data = e.Port, e.Data
	case api.EvTick, api.EvSend, api.EvCrash:
		plain.N = e.N
	default:
		return nil, api.ErrArg
	}
	switch {
	case !same(e, plain) || e.N < 0 || e.Port < 0 || e.Port > 65535:
		return nil, api.ErrArg
	case e.Kind == api.EvPacket && len(e.Data) > api.MaxPacket:
		return nil, api.ErrLimit
	}
	switch e.Kind {
	case api.EvFrame:
		m.frame(e.Data)
	case api.EvPacket:
		m.packet(e.Port, e.Data)
	case api.EvTick:
		m.w.Now = int(min(uint64(m.w.Now)+uint64(e.N), math.MaxInt32))
	case api.EvSend:
		n := min(e.N, len(m.waits))
		m.l, m.waits = slices.Clone(m.waits[:n]), m.waits[n:]
	case api.EvCrash:
		m.fails = e.N
	}
	return m.l, api.OK
}

func (m *model) frame(b []byte) {
	r, n, e := wire.DecodeRequest(b)
	if e == api.OK && n != len(b) {
		e = api.ErrForm
	}
	reply := api.Reply{Error: e}
	switch {
	case e != api.OK:
	case r.Kind == api.RqInstall || r.Kind == api.RqWrite:
		var cut bool
		if reply, cut = m.write(r); cut {
			return
		}
	case !m.there:
		reply.Error = api.ErrGone
	default:
		reply, e = rules.Read(m.p, m.w, r)
		reply.Error = e
	}
	f, e := wire.EncodeReply(reply)
	if e != api.OK {
		f = []byte{0, 0, 0, 8, byte(api.ErrLimit), 0, 0, 0, 0, 0, 0, 0}
	}
	m.tell(api.Out{Kind: api.OuReply, Data: f})
}

// write: true, if the power failed.
func (m *model) write(r api.Request) (api.Reply, bool) {
	next, at, e := m.ask(r)
	if e != api.OK {
		return api.Reply{Error: e, At: at}, false
	}
	b, _ := wire.EncodeRequest(r)
	f, e := journal.Frame(b)
	if e == api.OK && m.kept+len(f) > m.room {
		e = api.ErrFull
	}
	if e != api.OK {
		return api.Reply{Error: e}, false
	}
	cut := m.fails >= 0
	if !cut || m.fails >= len(f) {
		m.installed = next
		m.kept += len(f)
		if cut {
			m.whole++
		}
	}
	if cut {
		m.cuts++
		m.anew()
	}
	return api.Reply{}, cut
}

// anew: nothing waits, and of what was written cells are as new.
func (m *model) anew() {
	m.waits, m.fails = nil, -1
	var w api.World
	if m.there {
		w, _ = source.New(m.p)
		w.Tables, w.Groups = m.w.Tables, m.w.Groups
	}
	m.w = w
}

// ask is what a request comes to, if it is kept.
func (m *model) ask(r api.Request) (installed, int, api.Errno) {
	if r.Kind == api.RqWrite {
		if !m.there {
			return installed{}, 0, api.ErrGone
		}
		w, at, e := rules.Write(m.p, m.w, r.Updates)
		return installed{true, m.p, w}, at, e
	}
	p, line, e := parse.Parse(r.Source)
	if e == api.OK {
		line, e = types.Check(p)
	}
	if e != api.OK {
		return installed{}, line, e
	}
	w, _ := source.New(p)
	w.Now = m.w.Now
	return installed{true, p, w}, 0, api.OK
}

func (m *model) packet(port int, b []byte) {
	if !m.there {
		m.tell(drop(api.EndDropped, port))
		return
	}
	var came int
	for range api.MaxPasses {
		came = port
		pass := m.pass(port, b)
		switch {
		case pass.Again:
		case pass.Round:
			port, b = pass.Port, pass.Packet
		default:
			return
		}
	}
	m.tell(drop(api.EndPasses, came))
}

// pass is one by the tree, and what comes out of it.
func (m *model) pass(port int, b []byte) api.Pass {
	pass, w, e := source.Run(m.p, m.w, port, b)
	if e != api.OK {
		panic(e)
	}
	m.w = w
	for _, e := range pass.Effects {
		if e.Kind == api.EfDigest {
			m.tell(digest(e.Data...))
		}
	}
	for _, e := range pass.Effects {
		if e.Kind == api.EfClone {
			for _, port := range w.Groups[e.Group].Ports {
				m.wait(to(port, pass.Packet...))
			}
		}
	}
	if pass.End != api.EndSent {
		m.tell(drop(pass.End, port))
	} else if !pass.Again && !pass.Round {
		m.wait(to(pass.Port, pass.Packet...))
	}
	return pass
}

func (m *model) wait(o api.Out) {
	if len(m.waits) == m.queue {
		m.tell(drop(api.EndFull, o.Port))
		return
	}
	m.waits = append(m.waits, o)
}

// note counts what came out.
func note(seen map[string]int, e api.Event, got done) {
	seen[fmt.Sprint("error ", int(got.E))]++
	for _, o := range got.Outs {
		switch o.Kind {
		case api.OuReply:
			r, _, _ := wire.DecodeReply(o.Data)
			seen[fmt.Sprint("reply ", int(r.Error))]++
			if r.At > 0 {
				seen["later"]++
			}
			if len(r.Entries) > 0 {
				seen["entries"]++
			}
			if r.Value.Lo > 0 {
				seen["value"]++
			}
		case api.OuDrop:
			seen[fmt.Sprint("drop ", o.End)]++
		default:
			seen[fmt.Sprint("out ", o.Kind)]++
		}
	}
	if e.Kind == api.EvPacket && len(got.Outs) == 0 && got.E == api.OK {
		seen["waits"]++
	}
}

// anyConfig has rooms of all sizes.
func (m maker) anyConfig() yard.Config {
	c := yard.Config{Cache: pick(m.Rand, []int{0, 1, 2, 5, api.MaxCache}), Queue: pick(m.Rand, []int{0, 1, 3, 20, api.MaxQueue}), Disk: pick(m.Rand, []int{2500, 5000, 100000, api.MaxDisk})}
	for range m.IntN(6) {
		c.Picks = append(c.Picks, m.anyPick())
	}
	return c
}

func (m maker) anyPick() int {
	return pick(m.Rand, []int{0, 1, 2, m.IntN(1000), -1, math.MinInt, math.MaxInt})
}

// TestModel: whatever comes in, what comes out is what the chapter says, and so is the world behind it.
func TestModel(t *testing.T) { // P21.2, P21.3, P21.4, P21.5, P0.1, P0.3, P0.4
	t.Parallel()
	r := maker{dice(1)}
	seen := map[string]int{}
	for range 120 {
		c := r.anyConfig()
		y, m := made(t, c), modelOf(c)
		var events []api.Event
		var all []api.Out
		for range 100 {
			e := r.event(t, m)
			got := do(y, e)
			l, err := m.do(e)
			if !same(got, done{l, err}) {
				t.Fatalf("Do(%.3000s) = %.3000s, want %.3000s, %d", told(e), told(got), told(l), err)
			}
			has(t, y, m.w)
			note(seen, e, got)
			events, all = append(events, e), append(all, l...)
		}
		if got := run(c, events...); !same(got, outs(all...)) {
			t.Fatalf("Run(%+v) = %.3000s, want %.3000s", c, told(got), told(all))
		}
		seen["cut"] += m.cuts - m.whole
		seen["cut, whole"] += m.whole
	}
	for _, k := range []string{
		"error 0", "error 1", "error 3", "reply 0", "reply 1", "reply 4", "reply 5", "reply 6", "reply 7", "reply 8", "reply 9", "reply 10", "reply 11", "reply 12", "later", "entries", "value",
		"drop 2", "drop 3", "drop 4", "drop 5", "drop 6", "drop 7", "out 2", "out 3", "waits", "cut", "cut, whole",
	} {
		if seen[k] < 10 {
			t.Errorf("the sample says too little of %q: %d", k, seen[k])
		}
	}
}

// TestCachesAndPicks: they make no difference.
func TestCachesAndPicks(t *testing.T) { // P21.5, P0.2
	t.Parallel()
	r := maker{dice(2)}
	for range 25 {
		c := r.anyConfig()
		m := modelOf(c)
		var events []api.Event
		var all []api.Out
		for range 150 {
			e := r.event(t, m)
			// The same few packets come again and again.
			if e.Kind == api.EvPacket && len(e.Data) > 1 {
				e.Data = e.Data[:1]
			}
			l, _ := m.do(e)
			events, all = append(events, e), append(all, l...)
		}
		for _, room := range []int{0, 1, 2, 3, 7, api.MaxCache} {
			c.Cache, c.Picks = room, c.Picks[:0]
			for range r.IntN(4) {
				c.Picks = append(c.Picks, r.anyPick())
			}
			if got := run(c, events...); !same(got, outs(all...)) {
				t.Fatalf("Run(%+v) = %.3000s, want %.3000s", c, told(got), told(all))
			}
		}
	}
}
