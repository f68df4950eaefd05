package exec

import "pointsman/api"

// lastOp is the last one of the ops of instructions.
const lastOp = api.InUnless

// deed is what an instruction does to a pass, and what to look at ahead of it on the way back along the pass's trail.
type deed struct {
	do   func(x *pass, i *api.Ins) turn
	back func(k *look, i *api.Ins)
}

// turn is where code goes on behind an instruction.
type turn int

const (
	onward    turn = iota // right behind it
	elsewhere             // at its N
	between               // right behind it, but other code was gone through in between
)

// deeds are what instructions do, by their ops.
func deeds() [lastOp + 1]deed {
	return [lastOp + 1]deed{
		api.InLit:    {(*pass).lit, (*look).made},
		api.InMove:   {(*pass).move, (*look).moved},
		api.InOp:     {(*pass).operation, (*look).reckoned},
		api.InHash:   {(*pass).hash, (*look).summed},
		api.InValid:  {(*pass).valid, (*look).made},
		api.InMake:   {(*pass).make, (*look).passed},
		api.InGone:   {(*pass).gone, (*look).cleared},
		api.InCount:  {(*pass).count, (*look).passed},
		api.InRead:   {(*pass).read, (*look).found},
		api.InWrite:  {(*pass).write, (*look).asked},
		api.InMeter:  {(*pass).meter, (*look).found},
		api.InRandom: {(*pass).random, (*look).made},
		api.InDrop:   {(*pass).drop, (*look).passed},
		api.InDigest: {(*pass).digest, (*look).passed},
		api.InClone:  {(*pass).clone, (*look).passed},
		api.InAgain:  {(*pass).again, (*look).passed},
		api.InRound:  {(*pass).round, (*look).passed},
		api.InApply:  {(*pass).apply, (*look).passed},
		api.InCall:   {(*pass).call, (*look).called},
		api.InJump:   {(*pass).jump, (*look).passed},
		api.InUnless: {(*pass).unless, (*look).asked},
	}
}

// walk goes through a list of instructions, which ends as jumps lead ahead alone. A stretch of it gets its place in the trail at its beginning, so that it stands ahead of the code that its last instruction goes through.
func (x *pass) walk(l []api.Ins) {
	at := 0
stretch:
	for at < len(l) {
		begun, place := at, len(x.trail)
		x.trail = append(x.trail, step{})
		for at < len(l) {
			i := &l[at]
			at++
			x.trail[place].trod = l[begun:at]
			switch x.deeds[i.Op].do(x, i) {
			case elsewhere:
				at = i.N
				continue stretch
			case between:
				continue stretch
			}
		}
	}
}
