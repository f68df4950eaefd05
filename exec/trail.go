package exec

import (
	"slices"

	"pointsman/api"
)

// step is a piece of a pass's trail: instructions that were gone through one behind the other, or something else that bears on what slots hold.
type step struct {
	trod []api.Ins
	more func(k *look)
}

// note lays what is to be done on the way back behind the trail.
func (x *pass) note(more func(k *look)) { x.trail = append(x.trail, step{more: more}) }

// seen is what the pass, which came to that, looked at. It is told on the way back, where it is known of each number whether anything behind hangs on it.
func (x *pass) seen(done api.Pass) Seen {
	k := &look{code: x.code, slots: blank(x.code), mask: make([]byte, x.bytes)}
	for _, s := range slices.Backward(x.trail) {
		for n := len(s.trod) - 1; n >= 0; n-- {
			x.deeds[s.trod[n].Op].back(k, &s.trod[n])
		}
		if s.more != nil {
			s.more(k)
		}
	}
	port := k.filled(x.code.Meta[portPlace])
	return Seen{Mask: k.mask, Least: x.cursor.At(), Port: !isNone(port), Fixed: x.isFixed(done.End)}
}

// isFixed: would each packet that looks the same go the same way? One that is shorter than one that was too long might not be too long.
func (x *pass) isFixed(end api.EndKind) bool {
	switch end {
	case api.EndSent, api.EndDropped, api.EndReject:
		return !x.tooLong && !slices.ContainsFunc(x.effects, isLoose)
	}
	return false
}

// isLoose: does an effect hang on more than the packet and the tables, or tell what another packet would tell otherwise?
func isLoose(e api.Effect) bool {
	switch e.Kind {
	case api.EfRead, api.EfWrite, api.EfMeter, api.EfRandom, api.EfDigest:
		return true
	}
	return false
}
