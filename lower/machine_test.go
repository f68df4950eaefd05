package lower_test

import (
	"math/rand/v2"
	"slices"

	"pointsman/api"
	"pointsman/bits"
	"pointsman/packet"
)

// machine is a pass by code, as chapters 12 and 16 say. Its slots that are neither fields nor metadata begin with whatever there is: code asks for none that it did not fill.
type machine struct {
	run
	c      api.Code
	slots  []api.Bits
	there  []bool
	owner  map[int]int // the head of a slot that has one
	shield bool        // slots of a head that is not there are kept at 0 by the machine, too
}

// codeRun goes by what the code says alone: it has no program beside it.
func codeRun(c api.Code, w api.World, port int, b []byte, shield bool) run {
	m := &machine{run: newRun(w), c: c, there: make([]bool, len(c.Heads)), owner: map[int]int{}, shield: shield}
	r := rand.New(rand.NewPCG(uint64(port), uint64(len(b))))
	for _, w := range c.Slots {
		v, _ := bits.Of(w, r.Uint64(), r.Uint64())
		m.slots = append(m.slots, v)
	}
	for h, head := range c.Heads {
		m.clear(head.Slots)
		for _, s := range head.Slots {
			m.owner[s] = h
		}
	}
	m.clear(c.Meta)
	m.slots[c.Meta[0]].Lo = uint64(port)
	end, rest := m.parse(b)
	var heads []api.Bits
	if end == api.EndSent {
		m.code(c.Main)
		for _, h := range c.Emits {
			if m.there[h] {
				heads = append(heads, m.values(c.Heads[h].Slots)...)
			}
		}
	}
	m.end(end, heads, rest, m.slots[c.Meta[1]])
	return m.run
}

func (m *machine) clear(slots []int) {
	for _, s := range slots {
		m.slots[s] = api.Bits{W: m.c.Slots[s]}
	}
}

func (m *machine) parse(b []byte) (api.EndKind, []byte) {
	c, _ := packet.New(b)
	at := 0
	if len(m.c.States) == 0 {
		at = -1
	}
	for steps := 0; at >= 0; steps++ {
		if steps == api.MaxSteps {
			return api.EndSteps, nil
		}
		n := m.c.States[at]
		for _, h := range n.Heads {
			for _, s := range m.c.Heads[h].Slots {
				v, e := c.Take(m.c.Slots[s])
				if e != api.OK {
					return api.EndShort, nil
				}
				m.slots[s] = v
			}
			m.there[h] = true
		}
		m.code(n.Code)
		at = m.leads(n)
	}
	if at == -2 {
		return api.EndReject, nil
	}
	return api.EndSent, c.Rest()
}

func (m *machine) leads(n api.Node) int {
	if n.Slot >= 0 {
		v := m.value(n.Slot)
		for _, c := range n.Cases {
			if led(v, c.Value, c.Mask) {
				return c.To
			}
		}
	}
	return n.To
}

func (m *machine) hidden(slot int) bool {
	h, ok := m.owner[slot]
	return m.shield && ok && !m.there[h]
}

func (m *machine) value(slot int) api.Bits {
	if m.hidden(slot) {
		return api.Bits{W: m.c.Slots[slot]}
	}
	return m.slots[slot]
}

func (m *machine) values(slots []int) []api.Bits {
	var l []api.Bits
	for _, s := range slots {
		l = append(l, m.value(s))
	}
	return l
}

func (m *machine) set(slot int, v api.Bits) {
	if v.W != m.c.Slots[slot] {
		panic("a number of another width")
	}
	if !m.hidden(slot) {
		m.slots[slot] = v
	}
}

func (m *machine) act(n int, args []api.Bits) {
	for i, s := range m.c.Acts[n].Params {
		m.set(s, args[i])
	}
	m.code(m.c.Acts[n].Code)
}

func (m *machine) code(l []api.Ins) {
	for at := 0; at < len(l); at++ {
		i := l[at]
		m.seen["ins "+insName(i.Op)]++
		switch i.Op {
		case api.InJump:
			at = i.N - 1
		case api.InUnless:
			if m.value(i.A).Lo == 0 {
				at = i.N - 1
			}
		default:
			m.do(i)
		}
	}
}

func (m *machine) do(i api.Ins) {
	switch i.Op {
	case api.InLit:
		m.set(i.To, i.Lit)
	case api.InMove:
		m.set(i.To, m.value(i.A))
	case api.InOp:
		v, e := bits.Do(i.By, m.value(i.A), m.value(i.B), i.N, i.M)
		if e != api.OK {
			panic(e)
		}
		m.set(i.To, v)
	case api.InHash:
		m.set(i.To, hashed(i.N, m.values(i.L)))
	case api.InValid:
		m.set(i.To, bit(m.there[i.N]))
	case api.InMake:
		if !m.there[i.N] {
			m.clear(m.c.Heads[i.N].Slots)
		}
		m.there[i.N] = true
	case api.InGone:
		m.clear(m.c.Heads[i.N].Slots)
		m.there[i.N] = false
	case api.InCount:
		m.count(i.N, m.value(i.A))
	case api.InRead:
		m.set(i.To, m.read(i.N, m.value(i.A)))
	case api.InWrite:
		m.write(i.N, m.value(i.A), m.value(i.B))
	case api.InMeter:
		m.set(i.To, m.meter(i.N, m.value(i.A)))
	case api.InRandom:
		m.set(i.To, m.random(m.c.Slots[i.To]))
	case api.InDrop:
		m.drop = true
	case api.InDigest:
		m.tell(api.Effect{Kind: api.EfDigest, Data: m.values(i.L)})
	case api.InClone:
		m.tell(api.Effect{Kind: api.EfClone, Group: i.N})
	case api.InAgain:
		m.again = true
	case api.InRound:
		m.round = true
	case api.InApply:
		t := m.c.Tables[i.N]
		m.code(t.Before)
		action, args := m.hit(i.N, t.Kinds, m.values(t.Keys))
		m.act(slices.IndexFunc(m.c.Acts, func(a api.Act) bool { return a.Name == action }), args)
	case api.InCall:
		m.act(i.N, m.values(i.L))
	default:
		panic("an instruction of no kind")
	}
}
