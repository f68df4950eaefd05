package exec_test

import (
	"bytes"
	"math/rand/v2"
	"slices"
	"strings"
	"testing"

	"pointsman/api"
	"pointsman/exec"
	"pointsman/lower"
	"pointsman/print"
	"pointsman/source"
)

// answered is all that a call of Run answers.
type answered struct {
	Pass  api.Pass
	World api.World
	Seen  exec.Seen
	E     api.Errno
}

// handed is all that it is handed.
type handed struct {
	P    api.Program
	C    api.Code
	W    api.World
	Port int
	B    []byte
}

func (h handed) run() answered {
	pass, behind, seen, e := exec.Run(h.P, h.C, h.W, h.Port, h.B)
	return answered{pass, behind, seen, e}
}

// of is a program of a text, and its code.
func of(t *testing.T, s string) (api.Program, api.Code) {
	t.Helper()
	p, c, line, e := lower.Of(s)
	if e != api.OK {
		t.Fatalf("Of(%.2000q): %d, %d", s, line, e)
	}
	return p, c
}

func loose(e api.Effect) bool {
	return slices.Contains([]api.EffectKind{api.EfRead, api.EfWrite, api.EfMeter, api.EfRandom, api.EfDigest}, e.Kind)
}

// most is how long a packet of n bytes is at most when it is put together.
func most(p api.Program, n int) int {
	for _, d := range p {
		for _, f := range d.Fields {
			if d.Kind == api.DeHeader {
				n += f.W
			}
		}
	}
	return n
}

// mayBeTooLong: may a pass of n bytes have come to that because it was too long when it was put together?
func mayBeTooLong(p api.Program, pass api.Pass, n int) bool {
	return pass.End == api.EndDropped && len(pass.Packet) == 0 && most(p, n) > api.MaxPacket
}

// sameRun asks that a pass by the program's code comes to what its pass by the tree comes to, and that what it looked at is told in the form that it has.
func sameRun(t *testing.T, h handed) answered {
	t.Helper()
	pass, behind, e := source.Run(h.P, h.W, h.Port, h.B)
	got := h.run()
	if e != api.OK || got.E != api.OK || !same(got.Pass, pass) || !same(got.World, behind) {
		t.Fatalf("%d, %.4000s\nwant %d, %.4000s\nworld %.4000s\nwant %.4000s\nprogram %.4000s\npacket %x from %d", got.E, told(got.Pass), e, told(pass), told(got.World), told(behind), told(h.P), h.B, h.Port)
	}
	if fault := wrongSeen(h, got); fault != "" {
		t.Fatalf("%s: %+v of %.4000s\nprogram %.4000s\npacket %x from %d", fault, got.Seen, told(got.Pass), told(h.P), h.B, h.Port)
	}
	return got
}

// wrongSeen is what is wrong with what a pass looked at, without a look at other packets.
func wrongSeen(h handed, got answered) string {
	s := got.Seen
	if len(s.Mask) != len(h.B) || s.Least < 0 || s.Least > 8*len(h.B) {
		return "Mask or Least of another packet"
	}
	for i := s.Least; i < 8*len(h.B); i++ {
		if s.Mask[i/8]>>(7-i%8)&1 == 1 {
			return "Mask reaches further than Least"
		}
	}
	fixed := slices.Contains([]api.EndKind{api.EndSent, api.EndDropped, api.EndReject}, got.Pass.End) && !slices.ContainsFunc(got.Pass.Effects, loose)
	if s.Fixed != fixed && !mayBeTooLong(h.P, got.Pass, len(h.B)) || s.Fixed && !fixed {
		return "Fixed"
	}
	if text, _ := print.Text(h.P); s.Port && !strings.Contains(text, "meta.port") {
		return "a port of which nothing is said"
	}
	return ""
}

// hits are those of a pass.
func hits(p api.Pass) []api.Effect {
	return slices.DeleteFunc(slices.Clone(p.Effects), func(e api.Effect) bool { return e.Kind != api.EfHit })
}

// another is a packet of some length that has the bits that were looked at.
func another(r *rand.Rand, h handed, s exec.Seen) handed {
	least := (s.Least + 7) / 8
	b := make([]byte, pick(r, []int{least, len(h.B), least + r.IntN(max(1, len(h.B)-least)), min(len(h.B)+1+r.IntN(20), api.MaxPacket), least + r.IntN(api.MaxPacket-least+1)}))
	copy(b, h.B)
	by := pick(r, []func(i int) byte{
		func(int) byte { return byte(r.Uint32()) },
		func(int) byte { return 0xff },
		func(int) byte { return 1 << r.IntN(8) },
		func(i int) byte { return b[i] },
		func(int) byte { return byte(r.Uint32()&r.Uint32()) & byte(r.Uint32()) },
	})
	for i := range b {
		change := by(i)
		if i < len(s.Mask) {
			change &^= s.Mask[i]
		}
		b[i] ^= change
	}
	h.B = b
	if !s.Port {
		h.Port = pick(r, []int{0, 1, 65535, h.Port, r.IntN(65536)})
	}
	return h
}

// lookAlike asks that other packets that look the same go the same way; so many of them. It tells how many did.
func lookAlike(t *testing.T, r *rand.Rand, h handed, got answered, n int) int {
	t.Helper()
	if !got.Seen.Fixed {
		return 0
	}
	alike := 0
	for range n {
		x := another(r, h, got.Seen)
		pass, _, e := source.Run(x.P, x.W, x.Port, x.B)
		if e != api.OK {
			t.Fatalf("%d of %x", e, x.B)
		}
		if mayBeTooLong(x.P, pass, len(x.B)) {
			continue
		}
		alike++
		if pass.End != got.Pass.End || !same(hits(pass), hits(got.Pass)) {
			t.Fatalf("%x from %d: %.2000s\n%x from %d: %.2000s\n%+v\nprogram %.4000s\nworld %.4000s", h.B, h.Port, told(got.Pass), x.B, x.Port, told(pass), got.Seen, told(h.P), told(h.W))
		}
		// More than is promised: what they do beside counting is the same, too.
		if pass.Again != got.Pass.Again || pass.Round != got.Pass.Round || !same(uncounted(pass), uncounted(got.Pass)) {
			t.Fatalf("%x, %x: %.2000s, %.2000s", h.B, x.B, told(got.Pass), told(pass))
		}
		if again := x.run(); again.Seen.Port != got.Seen.Port || again.Seen.Least != got.Seen.Least || !again.Seen.Fixed || !bytes.Equal(again.Seen.Mask[:again.Seen.Least/8], got.Seen.Mask[:got.Seen.Least/8]) {
			t.Fatalf("%x, %x: %+v, %+v", h.B, x.B, got.Seen, again.Seen)
		}
	}
	return alike
}

func uncounted(p api.Pass) []api.Effect {
	return slices.DeleteFunc(slices.Clone(p.Effects), func(e api.Effect) bool { return e.Kind == api.EfCount })
}
