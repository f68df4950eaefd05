package source

import (
	"errors"

	"pointsman/api"
	"pointsman/bits"
	"pointsman/packet"
)

// pass is a packet on its way through the program.
type pass struct {
	*names
	*values
	world     api.World
	deeds     [lastKind + 1]deed
	effects   []api.Effect
	toDrop    bool
	toBegin   bool // anew, as it came
	toGoRound bool // anew, as it is
}

// ended is how a pass is left in its midst.
type ended struct{ end api.EndKind }

func (e ended) Error() string { return "the pass ended in the parser" }

// begin is a pass that has gone through nothing. It keeps the world, and changes it.
func begin(n *names, w api.World, port int) *pass {
	x := &pass{names: n, values: n.blank(), world: w, deeds: deeds()}
	x.headers[metaName].fields["port"] = api.Bits{W: 16, Lo: uint64(port)}
	return x
}

func (x *pass) run(b []byte) api.Pass {
	rest, err := x.parse(b)
	var left ended
	if errors.As(err, &left) {
		return api.Pass{End: left.end}
	}
	x.do(x.control)
	return x.told(x.put(rest))
}

// parse goes through the parser's states, and answers what was not taken.
func (x *pass) parse(b []byte) ([]byte, error) {
	// Packets are far shorter than what a cursor may have.
	c, _ := packet.New(b)
	if len(x.states) == 0 {
		return c.Rest(), nil
	}
	to := "start"
	for range api.MaxSteps {
		s := x.states[to]
		if err := x.take(c, s.Headers); err != nil {
			return nil, err
		}
		to = x.target(s)
		if to == "accept" {
			return c.Rest(), nil
		}
		if to == "reject" {
			return nil, ended{api.EndReject}
		}
	}
	return nil, ended{api.EndSteps}
}

func (x *pass) take(c *packet.Cursor, headers []string) error {
	for _, name := range headers {
		h := x.headers[name]
		for _, f := range h.list {
			v, e := c.Take(f.W)
			if e != api.OK {
				return ended{api.EndShort}
			}
			h.fields[f.Name] = v
		}
		h.there = true
	}
	return nil
}

// target is where a state leads.
func (x *pass) target(s *api.State) string {
	if len(s.Select) == 0 {
		return s.To
	}
	v := x.value(&s.Select[0])
	for _, c := range s.Cases {
		if under(v, c.Mask) == under(c.Value, c.Mask) {
			return c.To
		}
	}
	return s.To
}

// under is a number's bits under a mask that is as wide.
func under(v, mask api.Bits) api.Bits {
	masked, _ := bits.Do(api.OpAnd, v, mask, 0, 0)
	return masked
}

// put is the packet as it is put together: there is room in package packet for all headers that a program has.
func (x *pass) put(rest []byte) []byte {
	var l []api.Bits
	for _, name := range x.deparser {
		h := x.headers[name]
		if !h.there {
			continue
		}
		for _, f := range h.list {
			l = append(l, h.fields[f.Name])
		}
	}
	b, _ := packet.Put(l)
	return append(b, rest...)
}

// told is what the pass came to with such a packet.
func (x *pass) told(b []byte) api.Pass {
	if len(b) > api.MaxPacket {
		return api.Pass{End: api.EndDropped, Effects: x.effects}
	}
	if x.toDrop {
		return api.Pass{End: api.EndDropped, Packet: b, Effects: x.effects}
	}
	out := x.headers[metaName].fields["out"]
	return api.Pass{End: api.EndSent, Packet: b, Port: int(out.Lo), Again: x.toBegin, Round: x.toGoRound && !x.toBegin, Effects: x.effects}
}
