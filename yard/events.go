package yard

import "pointsman/api"

// deeds are what events do, by their kinds; for EvNone there is none. What comes out is told one by one; if there is an error, nothing was told.
type deeds [api.EvCrash + 1]func(e api.Event, tell func(api.Out)) api.Errno

func (y *Yard) table() deeds {
	return deeds{api.EvFrame: y.frame, api.EvPacket: y.packet, api.EvTick: y.tick, api.EvSend: y.send, api.EvCrash: y.crash}
}

// isEvent: is it of a kind, and has it nothing that its kind does not name?
func isEvent(e api.Event) bool {
	switch e.Kind {
	case api.EvFrame:
		return e.Port == 0 && e.N == 0
	case api.EvPacket:
		return e.N == 0
	case api.EvTick, api.EvSend, api.EvCrash:
		return e.Port == 0 && len(e.Data) == 0
	}
	return false
}

func (y *Yard) tick(e api.Event, _ func(api.Out)) api.Errno { return y.state.Tick(e.N) }

func (y *Yard) send(e api.Event, tell func(api.Out)) api.Errno {
	l, err := y.queue.Send(e.N)
	for _, c := range l {
		tell(api.Out{Kind: api.OuPacket, Port: c.Port, Data: c.Data})
	}
	return err
}

func (y *Yard) crash(e api.Event, _ func(api.Out)) api.Errno { return y.disk.Fail(e.N) }
