package exec

import (
	"pointsman/api"
	"pointsman/bits"
	"pointsman/cells"
	"pointsman/match"
	"pointsman/packet"
	"pointsman/sums"
	"pointsman/worlds"
)

func (x *pass) set(slot int, v api.Bits) turn {
	x.slots[slot] = v
	return onward
}

func (x *pass) tell(e api.Effect) turn {
	x.effects = append(x.effects, e)
	return onward
}

func (x *pass) lit(i *api.Ins) turn { return x.set(i.To, i.Lit) }

func (x *pass) move(i *api.Ins) turn { return x.set(i.To, x.slots[i.A]) }

// operation has no error: the code may be.
func (x *pass) operation(i *api.Ins) turn {
	v, _ := bits.Do(i.By, x.slots[i.A], x.slots[i.B], i.N, i.M)
	return x.set(i.To, v)
}

func (x *pass) hash(i *api.Ins) turn {
	b, _ := packet.Put(x.values(i.L))
	sum, _ := sums.Sum(i.N, b)
	return x.set(i.To, sum)
}

func (x *pass) valid(i *api.Ins) turn {
	v := api.Bits{W: 1}
	if x.there[i.N] {
		v.Lo = 1
	}
	return x.set(i.To, v)
}

// make need not clear fields: those of a header that is not there are 0.
func (x *pass) make(i *api.Ins) turn {
	x.there[i.N] = true
	return onward
}

func (x *pass) gone(i *api.Ins) turn {
	x.there[i.N] = false
	for _, s := range x.code.Heads[i.N].Slots {
		x.clear(s)
	}
	return onward
}

func (x *pass) clear(slot int) turn { return x.set(slot, api.Bits{W: x.code.Slots[slot]}) }

// cell is the one that an instruction is about, if there is one.
func (x *pass) cell(i *api.Ins) (worlds.Cell, bool) {
	return worlds.Find(&x.world.Arrays[i.N], x.slots[i.A])
}

func (x *pass) count(i *api.Ins) turn {
	c, ok := x.cell(i)
	if !ok {
		return onward
	}
	c.Count()
	return x.tell(api.Effect{Kind: api.EfCount, Array: x.code.Arrays[i.N].Name, Cell: c.At()})
}

func (x *pass) read(i *api.Ins) turn {
	c, ok := x.cell(i)
	if !ok {
		return x.clear(i.To)
	}
	x.set(i.To, c.Read())
	return x.tell(api.Effect{Kind: api.EfRead, Array: x.code.Arrays[i.N].Name, Cell: c.At(), Value: x.slots[i.To]})
}

func (x *pass) write(i *api.Ins) turn {
	c, ok := x.cell(i)
	if !ok {
		return onward
	}
	c.Write(x.slots[i.B])
	return x.tell(api.Effect{Kind: api.EfWrite, Array: x.code.Arrays[i.N].Name, Cell: c.At(), Value: x.slots[i.B]})
}

func (x *pass) meter(i *api.Ins) turn {
	c, ok := x.cell(i)
	if !ok {
		return x.clear(i.To)
	}
	x.set(i.To, c.Meter(x.world.Now))
	return x.tell(api.Effect{Kind: api.EfMeter, Array: x.code.Arrays[i.N].Name, Cell: c.At(), Value: x.slots[i.To]})
}

func (x *pass) random(i *api.Ins) turn {
	v, next := cells.Random(x.world.Random, x.code.Slots[i.To])
	x.world.Random = next
	x.set(i.To, v)
	return x.tell(api.Effect{Kind: api.EfRandom, Value: v})
}

func (x *pass) drop(*api.Ins) turn {
	x.toDrop = true
	return onward
}

func (x *pass) again(*api.Ins) turn {
	x.toBegin = true
	return onward
}

func (x *pass) round(*api.Ins) turn {
	x.toGoRound = true
	return onward
}

func (x *pass) digest(i *api.Ins) turn {
	return x.tell(api.Effect{Kind: api.EfDigest, Data: x.values(i.L)})
}

func (x *pass) clone(i *api.Ins) turn {
	return x.tell(api.Effect{Kind: api.EfClone, Group: i.N})
}

func (x *pass) apply(i *api.Ins) turn {
	t, rows := &x.code.Tables[i.N], &x.world.Tables[i.N]
	x.walk(t.Before)
	keys := x.values(t.Keys)
	at := match.Find(tableOf(t, keys), rows.Entries, keys)
	x.tell(api.Effect{Kind: api.EfHit, Table: t.Name, Entry: at})
	action, args := rows.Default, rows.Args
	if at >= 0 {
		action, args = rows.Entries[at].Action, rows.Entries[at].Args
	}
	act := &x.code.Acts[x.acts[action]]
	x.note(func(k *look) { k.applied(t, rows.Entries, act) })
	return x.act(act, args)
}

// tableOf is how a table matches keys that are as wide as these.
func tableOf(t *api.Table, keys []api.Bits) match.Table {
	m := match.Table{Kinds: t.Kinds, Size: t.Size}
	for _, k := range keys {
		m.Widths = append(m.Widths, k.W)
	}
	return m
}

func (x *pass) call(i *api.Ins) turn { return x.act(&x.code.Acts[i.N], x.values(i.L)) }

func (x *pass) act(a *api.Act, args []api.Bits) turn {
	for i, s := range a.Params {
		x.set(s, args[i])
	}
	x.walk(a.Code)
	return between
}

func (x *pass) jump(*api.Ins) turn { return elsewhere }

func (x *pass) unless(i *api.Ins) turn {
	if x.slots[i.A].Lo == 0 {
		return elsewhere
	}
	return onward
}
