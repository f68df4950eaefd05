package yard

import (
	"pointsman/api"
	"pointsman/rules"
	"pointsman/wire"
)

// frame is what EvFrame does.
func (y *Yard) frame(e api.Event, tell func(api.Out)) api.Errno {
	if reply, ok := y.answer(e.Data); ok {
		tell(api.Out{Kind: api.OuReply, Data: encoded(reply)})
	}
	return api.OK
}

// answer is the reply to a frame; false, if the power failed while what it asks for was written.
func (y *Yard) answer(b []byte) (api.Reply, bool) {
	r, n, e := wire.DecodeRequest(b)
	if e == api.OK && n < len(b) {
		e = api.ErrForm
	}
	if e != api.OK {
		return api.Reply{Error: e}, true
	}
	switch r.Kind {
	case api.RqInstall, api.RqWrite:
		return y.write(r)
	case api.RqRead, api.RqCells:
		return y.read(r), true
	}
	return api.Reply{Error: api.ErrArg}, true
}

func (y *Yard) write(r api.Request) (api.Reply, bool) {
	reply, e := y.state.Do(r)
	if e == api.ErrCut {
		y.disk.Up()
		y.begin()
		return api.Reply{}, false
	}
	if r.Kind == api.RqInstall && reply.Error == api.OK {
		y.program, y.code = y.state.Program()
		y.cache.Clear()
	}
	return reply, true
}

func (y *Yard) read(r api.Request) api.Reply {
	if !y.isInstalled() {
		return api.Reply{Error: api.ErrGone}
	}
	reply, e := rules.Read(y.program, y.state.World(), r)
	reply.Error = e
	return reply
}

// encoded is a reply as a frame.
func encoded(r api.Reply) []byte {
	b, e := wire.EncodeReply(r)
	if e != api.OK {
		b, _ = wire.EncodeReply(api.Reply{Error: api.ErrLimit})
	}
	return b
}
