package yard

import (
	"pointsman/api"
	"pointsman/queue"
	"pointsman/worlds"
)

// picks are gone round and round, one for each pass, whatever becomes of the switch in between.
type picks struct {
	all []int
	at  int
}

func (p *picks) next() int {
	if len(p.all) == 0 {
		return 0
	}
	pick := p.all[p.at]
	p.at = (p.at + 1) % len(p.all)
	return pick
}

// packet is what EvPacket does.
func (y *Yard) packet(e api.Event, tell func(api.Out)) api.Errno {
	if !worlds.IsPort(e.Port) {
		return api.ErrArg
	}
	if len(e.Data) > api.MaxPacket {
		return api.ErrLimit
	}
	if !y.isInstalled() {
		tell(dropped(api.EndDropped, e.Port))
		return api.OK
	}
	y.passes(e.Port, e.Data, tell)
	return api.OK
}

// passes has a packet go through passes until one has it go out, or drops it.
func (y *Yard) passes(port int, b []byte, tell func(api.Out)) {
	for n := 1; ; n++ {
		pass := y.pass(port, b, tell)
		if !pass.Again && !pass.Round {
			return
		}
		if n == api.MaxPasses {
			tell(dropped(api.EndPasses, port))
			return
		}
		if pass.Round {
			port, b = pass.Port, pass.Packet
		}
	}
}

func (y *Yard) pass(port int, b []byte, tell func(api.Out)) api.Pass {
	w := y.state.World()
	// What is installed has no error, nor has what came in.
	pass, behind, _ := y.cache.Run(y.program, y.code, w, port, b, y.picks.next())
	y.state.Set(behind)
	for _, e := range pass.Effects {
		if e.Kind == api.EfDigest {
			tell(api.Out{Kind: api.OuDigest, Values: e.Data})
		}
	}
	y.wait(w.Groups, pass, tell)
	if pass.End != api.EndSent {
		tell(dropped(pass.End, port))
	}
	return pass
}

// wait has the copies of a pass wait, as many as there is room for.
func (y *Yard) wait(groups []api.Group, pass api.Pass, tell func(api.Out)) {
	l, _ := queue.Copies(groups, pass)
	for _, c := range l {
		if y.queue.Put(c) == api.ErrFull {
			tell(dropped(api.EndFull, c.Port))
		}
	}
}

func dropped(end api.EndKind, port int) api.Out {
	return api.Out{Kind: api.OuDrop, End: end, Port: port}
}
