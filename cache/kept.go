package cache

import (
	"bytes"
	"iter"

	"pointsman/api"
	"pointsman/exec"
)

// byteBits is how many bits a byte has.
const byteBits = 8

// asked is what a call of Run is handed.
type asked struct {
	program api.Program
	code    api.Code
	world   api.World
	port    int
	bytes   []byte
}

// kept is a pass that is kept.
type kept struct {
	ground *ground
	look   look
	again  func(a *asked) (api.Pass, api.World, api.Errno)
}

// look is what a pass looked at, of its packet and its port.
type look struct {
	mask, bits []byte // bits has none that mask has not
	least      int
	hasPort    bool
	port       int
}

func lookOf(a *asked, s exec.Seen) look {
	k := look{mask: bytes.Clone(bytes.TrimRight(s.Mask, "\x00")), least: s.Least, hasPort: s.Port, port: a.port}
	for i, m := range k.mask {
		k.bits = append(k.bits, a.bytes[i]&m)
	}
	return k
}

// fits: does a call look the same? The mask reaches no further than a packet that has the least bits.
func (k *look) fits(a *asked) bool {
	if len(a.bytes)*byteBits < k.least || k.hasPort && a.port != k.port {
		return false
	}
	for i, m := range k.mask {
		if a.bytes[i]&m != k.bits[i] {
			return false
		}
	}
	return true
}

// fromEldest goes through what is kept.
func (c *Cache) fromEldest() iter.Seq[*kept] {
	return func(yield func(k *kept) bool) {
		for i := range c.passes {
			if !yield(&c.passes[i]) {
				return
			}
		}
	}
}

// ground is the one of the passes that were asked on the same, if any is kept.
func (c *Cache) ground(a *asked) *ground {
	var last *ground
	for k := range c.fromEldest() {
		// Passes of one ground share it, and mostly stand together.
		if k.ground != last && k.ground.is(a) {
			return k.ground
		}
		last = k.ground
	}
	return nil
}

// alike is the first pass of a ground that looked at the same, if one is kept.
func (c *Cache) alike(g *ground, a *asked) *kept {
	for k := range c.fromEldest() {
		if k.ground == g && k.look.fits(a) {
			return k
		}
	}
	return nil
}
