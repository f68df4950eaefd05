package exec

import (
	"slices"

	"pointsman/api"
	"pointsman/packet"
)

// byteBits is how many bits a byte has.
const byteBits = 8

// The slots of the metadata that it has in any program, by their places in Meta.
const (
	portPlace = iota
	outPlace
)

// Where a node leads that leads to no other one.
const (
	toAccept = -1
	toReject = -2
)

// pass is a packet on its way through the code.
type pass struct {
	code      *api.Code
	world     api.World
	cursor    *packet.Cursor
	bytes     int // that the packet has
	deeds     [lastOp + 1]deed
	acts      map[string]int // places of actions
	slots     []api.Bits
	there     []bool // of each head
	trail     []step
	effects   []api.Effect
	toDrop    bool
	toBegin   bool // anew, as it came
	toGoRound bool // anew, as it is
	tooLong   bool
}

// begin is a pass that has gone through nothing. It keeps the world, and changes it.
func begin(c *api.Code, w api.World, port int, b []byte) *pass {
	x := &pass{code: c, world: w, bytes: len(b), deeds: deeds(), acts: map[string]int{}, slots: blank(c), there: make([]bool, len(c.Heads))}
	// Packets are far shorter than what a cursor may have.
	x.cursor, _ = packet.New(b)
	for i, a := range c.Acts {
		x.acts[a.Name] = i
	}
	x.slots[c.Meta[portPlace]].Lo = uint64(port)
	return x
}

// blank are the slots of code, each of them 0.
func blank(c *api.Code) []api.Bits {
	l := make([]api.Bits, len(c.Slots))
	for i, w := range c.Slots {
		l[i].W = w
	}
	return l
}

func (x *pass) run() api.Pass {
	if end := x.parse(); end != api.EndNone {
		return api.Pass{End: end}
	}
	x.walk(x.code.Main)
	return x.told()
}

// parse goes through the parser's nodes. It answers how the pass ends there, if it does.
func (x *pass) parse() api.EndKind {
	at := toAccept
	if len(x.code.States) > 0 {
		at = 0
	}
	for steps := 0; at >= 0; steps++ {
		if steps == api.MaxSteps {
			return api.EndSteps
		}
		n := &x.code.States[at]
		if !x.take(n.Heads) {
			return api.EndShort
		}
		x.walk(n.Code)
		at = x.target(n)
	}
	if at == toReject {
		return api.EndReject
	}
	return api.EndNone
}

// take takes headers, and says whether there were bits enough.
func (x *pass) take(heads []int) bool {
	for _, h := range heads {
		from := x.cursor.At()
		for _, s := range x.code.Heads[h].Slots {
			v, e := x.cursor.Take(x.code.Slots[s])
			if e != api.OK {
				return false
			}
			x.slots[s] = v
		}
		x.there[h] = true
		x.note(func(k *look) { k.taken(h, from) })
	}
	return true
}

// target is where a node leads. It looked at its slot under the masks of all cases that it asked.
func (x *pass) target(n *api.Node) int {
	to, asked := n.To, api.Bits{}
	for _, c := range n.Cases {
		asked = joined(asked, c.Mask)
		if alike(x.slots[n.Slot], c.Value, c.Mask) {
			to = c.To
			break
		}
	}
	if len(n.Cases) > 0 {
		x.note(func(k *look) { k.at(n.Slot, asked) })
	}
	return to
}

// alike: have two numbers the same bits where the mask has one?
func alike(a, b, mask api.Bits) bool {
	return (a.Hi^b.Hi)&mask.Hi == 0 && (a.Lo^b.Lo)&mask.Lo == 0
}

func (x *pass) values(slots []int) []api.Bits {
	var l []api.Bits
	for _, s := range slots {
		l = append(l, x.slots[s])
	}
	return l
}

// put is the packet as it is put together, unless it is too long.
func (x *pass) put() ([]byte, bool) {
	var l []api.Bits
	for _, h := range x.code.Emits {
		if x.there[h] {
			l = append(l, x.values(x.code.Heads[h].Slots)...)
		}
	}
	rest, width := x.cursor.Rest(), 0
	for _, v := range l {
		width += v.W
	}
	if width/byteBits+len(rest) > api.MaxPacket {
		return nil, false
	}
	b, _ := packet.Put(l)
	return slices.Concat(b, rest), true
}

// told is what the pass came to.
func (x *pass) told() api.Pass {
	b, ok := x.put()
	x.tooLong = !ok
	if x.tooLong || x.toDrop {
		return api.Pass{End: api.EndDropped, Packet: b, Effects: x.effects}
	}
	out := x.slots[x.code.Meta[outPlace]]
	return api.Pass{End: api.EndSent, Packet: b, Port: int(out.Lo), Again: x.toBegin, Round: x.toGoRound && !x.toBegin, Effects: x.effects}
}
