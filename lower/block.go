package lower

import "pointsman/api"

// block is a list of instructions that is being made.
type block struct {
	*maker
	action string // whose params are known
	list   []api.Ins
}

func (b *block) add(i api.Ins) { b.list = append(b.list, i) }

// ahead is a place of a list that is not known yet. The jumps that lead there are told when the list has grown so far.
type ahead struct{ tell []func(place int) }

func (b *block) jump(i api.Ins, to *ahead) {
	at := len(b.list)
	b.add(i)
	to.tell = append(to.tell, func(place int) { b.list[at].N = place })
}

// land says that the place is the list's end as it is now.
func (b *block) land(to *ahead) {
	for _, tell := range to.tell {
		tell(len(b.list))
	}
}
