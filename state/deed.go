package state

import (
	"pointsman/api"
	"pointsman/journal"
	"pointsman/lower"
	"pointsman/rules"
	"pointsman/source"
	"pointsman/wire"
)

// next is what a state holds behind a request.
type next struct {
	state   *State
	program *program
	world   api.World
}

func (n *next) begin() { n.state.program, n.state.world = n.program, n.world }

// writes: is a request of a kind that is kept, and has it nothing that its kind does not name?
func writes(r api.Request) bool {
	switch r.Kind {
	case api.RqInstall:
		r.Source = ""
	case api.RqWrite:
		r.Updates = nil
	default:
		return false
	}
	return r.Source == "" && r.Table == "" && r.N == 0 && len(r.Updates) == 0
}

// deed is what is to be done for a request that writes, and is not done yet; or an error, and the line or the place that it is about.
func (s *State) deed(r api.Request) (func(), int, api.Errno) {
	if r.Kind == api.RqInstall {
		return s.installing(r.Source)
	}
	return s.writing(r.Updates)
}

func (s *State) installing(text string) (func(), int, api.Errno) {
	tree, _, line, e := lower.Of(text)
	if e != api.OK {
		return nil, line, e
	}
	// A program that has code has a world.
	w, _ := source.New(tree)
	w.Now = s.world.Now
	n := &next{s, &program{text, tree}, w}
	return n.begin, 0, api.OK
}

func (s *State) writing(l []api.Update) (func(), int, api.Errno) {
	if s.program == nil {
		return nil, 0, api.ErrGone
	}
	w, at, e := rules.Write(s.program.tree, s.world, l)
	if e != api.OK {
		return nil, at, e
	}
	n := &next{s, s.program, w}
	return n.begin, 0, api.OK
}

// keep puts a request on the disk, and does what it asks for once it is there whole: nothing may be told of it ahead of that.
func (s *State) keep(r api.Request, do func()) (e api.Errno) {
	defer func() {
		if e == api.OK {
			do()
		}
	}()
	b, e := wire.EncodeRequest(r)
	if e != api.OK {
		return e
	}
	return journal.Add(s.disk, b)
}

// redo does what a record asks for; false, if it is no request that Do would have kept.
func (s *State) redo(record []byte) bool {
	r, n, e := wire.DecodeRequest(record)
	if e != api.OK || n != len(record) || !writes(r) {
		return false
	}
	do, _, e := s.deed(r)
	if e != api.OK {
		return false
	}
	do()
	return true
}
