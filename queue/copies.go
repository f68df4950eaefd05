package queue

import (
	"bytes"
	"iter"

	"pointsman/api"
)

// copies tells those of a pass one by one. It asks for clones of groups that are there.
func copies(groups []api.Group, p api.Pass) iter.Seq[Copy] {
	return func(yield func(Copy) bool) {
		for _, e := range p.Effects {
			if !isClone(e) {
				continue
			}
			for _, port := range groups[e.Group].Ports {
				if !yield(copyFor(port, p)) {
					return
				}
			}
		}
		if goesOut(p) {
			yield(copyFor(p.Port, p))
		}
	}
}

// copyFor has bytes of its own: no two copies share any.
func copyFor(port int, p api.Pass) Copy { return Copy{Port: port, Data: bytes.Clone(p.Packet)} }

func isClone(e api.Effect) bool { return e.Kind == api.EfClone }

// asksForNone: is it a clone of a group that is not there? What another effect has as its group is not asked.
func asksForNone(groups []api.Group, e api.Effect) bool {
	return isClone(e) && (e.Group < 0 || e.Group >= len(groups))
}

// goesOut: is the packet itself sent, and not to begin anew?
func goesOut(p api.Pass) bool { return p.End == api.EndSent && !p.Again && !p.Round }
