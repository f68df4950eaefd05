package lower

import "pointsman/api"

func (b *block) stmts(l []api.Stmt) {
	for i := range l {
		b.stmt(&l[i])
	}
}

func (b *block) stmt(t *api.Stmt) {
	args := b.exprs(t.Args)
	switch t.Kind {
	case api.StSet:
		b.set(t, args[0])
	case api.StIf:
		b.choice(t, args[0])
	case api.StApply:
		b.add(api.Ins{Op: api.InApply, N: b.places[t.Name]})
	case api.StCall:
		b.add(api.Ins{Op: api.InCall, N: b.places[t.Name], L: args})
	case api.StMake:
		b.add(api.Ins{Op: api.InMake, N: b.places[t.Name]})
	case api.StGone:
		b.add(api.Ins{Op: api.InGone, N: b.places[t.Name]})
	case api.StCount:
		b.add(api.Ins{Op: api.InCount, N: b.places[t.Name], A: args[0]})
	case api.StRead:
		b.setBy(t, api.Ins{Op: api.InRead, N: b.places[t.Array], A: args[0]})
	case api.StWrite:
		b.add(api.Ins{Op: api.InWrite, N: b.places[t.Array], A: args[0], B: args[1]})
	case api.StMeter:
		b.setBy(t, api.Ins{Op: api.InMeter, N: b.places[t.Array], A: args[0]})
	case api.StRandom:
		b.setBy(t, api.Ins{Op: api.InRandom})
	case api.StDrop:
		b.add(api.Ins{Op: api.InDrop})
	case api.StDigest:
		b.add(api.Ins{Op: api.InDigest, L: args})
	case api.StClone:
		b.add(api.Ins{Op: api.InClone, N: t.N})
	case api.StAgain:
		b.add(api.Ins{Op: api.InAgain})
	case api.StRound:
		b.add(api.Ins{Op: api.InRound})
	}
}

// set moves a slot into the field that a statement sets: of a header only where that is there.
func (b *block) set(t *api.Stmt, from int) {
	move := api.Ins{Op: api.InMove, To: b.slots[name{t.Name, t.Field}], A: from}
	if t.Name == meta {
		b.add(move)
		return
	}
	var end ahead
	b.jump(api.Ins{Op: api.InUnless, A: b.into(b.valid(t.Name), 1)}, &end)
	b.add(move)
	b.land(&end)
}

// setBy takes a slot between the instruction and the field: what the instruction does and tells comes about whether the field's header is there or not.
func (b *block) setBy(t *api.Stmt, i api.Ins) {
	field := b.slots[name{t.Name, t.Field}]
	b.set(t, b.into(i, b.code.Slots[field]))
}

func (b *block) choice(t *api.Stmt, asked int) {
	var other, end ahead
	b.jump(api.Ins{Op: api.InUnless, A: asked}, &other)
	b.stmts(t.Body)
	if len(t.Else) > 0 {
		b.jump(api.Ins{Op: api.InJump}, &end)
	}
	b.land(&other)
	b.stmts(t.Else)
	b.land(&end)
}
